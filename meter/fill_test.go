package meter_test

import (
	"math"
	"math/rand/v2"
	"slices"
	"testing"

	"gridworks/api"
	"gridworks/meter"
)

// P14.2: the chapter's example, and what else is asked of it.
func TestFill(t *testing.T) {
	times, values := []int{10, 20}, []int{0, 100}
	wantFill(t, times, values, []int{15, 25}, []int{50, 150})
	wantFill(t, times, values, []int{10, 20}, []int{0, 100})
	wantFill(t, times, values, []int{0, 9, 11, 19, 21}, []int{0, 0, 10, 90, 110})
	wantFill(t, []int{0, 5, 6}, []int{7, 7, 9}, []int{0, 4, 5, 6, 7, 8, 100}, []int{7, 7, 7, 9, 11, 13, 197})
}

// P14.2: ahead of the first one its value, wherever the line would lead.
func TestAhead(t *testing.T) {
	wantFill(t, []int{10, 20, 30}, []int{500, 900, 901}, []int{0, 1, 9, 10, 11}, []int{500, 500, 500, 500, 540})
	wantFill(t, []int{api.MaxClock}, []int{5}, []int{0, api.MaxClock - 1, api.MaxClock}, []int{5, 5, 5})
}

// P14.2: behind the last one as on the line of the last two alone.
func TestBehind(t *testing.T) {
	wantFill(t, []int{10, 20, 30}, []int{500, 900, 901}, []int{31, 39, 40, 50, 1030}, []int{901, 901, 902, 903, 1001})
	wantFill(t, []int{10, 20, 30}, []int{500, 900, 900}, []int{31, api.MaxClock}, []int{900, 900})
	wantFill(t, []int{0, 3}, []int{0, 2}, []int{4, 5, 6, 7}, []int{2, 3, 4, 4})
}

// P14.2: of one alone its value, at all times.
func TestOneAlone(t *testing.T) {
	wantFill(t, []int{10}, []int{42}, []int{0, 9, 10, 11, api.MaxClock}, []int{42, 42, 42, 42, 42})
	wantFill(t, []int{0}, []int{api.MaxValue}, []int{0, 1}, []int{api.MaxValue, api.MaxValue})
	wantFill(t, []int{0}, []int{0}, []int{0, 1}, []int{0, 0})
}

// P14.2: what is between two is rounded down.
func TestRoundedDown(t *testing.T) {
	wantFill(t, []int{0, 3}, []int{10, 12}, []int{1, 2}, []int{10, 11})
	wantFill(t, []int{0, 10}, []int{10, 11}, []int{1, 5, 9, 10, 11, 19, 20}, []int{10, 10, 10, 11, 11, 11, 12})
	wantFill(t, []int{0, 7}, []int{0, 20}, []int{1, 2, 3, 4, 5, 6}, []int{2, 5, 8, 11, 14, 17})
}

// P14.2: MaxValue at most.
func TestAtMost(t *testing.T) {
	wantFill(t, []int{0, 10}, []int{0, api.MaxValue - 1}, []int{9, 10, 11, 12}, []int{3865470564, api.MaxValue - 1, api.MaxValue, api.MaxValue})
	wantFill(t, []int{0, 1}, []int{0, api.MaxValue}, []int{0, 1, 2, api.MaxClock}, []int{0, api.MaxValue, api.MaxValue, api.MaxValue})
	wantFill(t, []int{0, 1}, []int{api.MaxValue - 3, api.MaxValue - 2}, []int{2, 3, 4, 5}, []int{api.MaxValue - 1, api.MaxValue, api.MaxValue, api.MaxValue})
	wantFill(t, []int{0, api.MaxClock}, []int{0, api.MaxValue}, []int{1, 500000000, api.MaxClock - 1, api.MaxClock}, []int{4, 2147483647, 4294967290, api.MaxValue})
}

// P14.2: times are asked for in any order, as often as one likes, or not at all.
func TestAsked(t *testing.T) {
	wantFill(t, []int{10, 20}, []int{0, 100}, []int{25, 15, 25, 0, 15}, []int{150, 50, 150, 0, 50})
	wantFill(t, []int{10, 20}, []int{0, 100}, nil, nil)
	wantFill(t, []int{10, 20}, []int{0, 100}, []int{}, nil)
}

// P14.2: as many as may be.
func TestMostKnown(t *testing.T) {
	times, values, ask, want := make([]int, api.MaxKnown), make([]int, api.MaxKnown), make([]int, api.MaxKnown), make([]int, api.MaxKnown)
	for i := range times {
		times[i], values[i], ask[i], want[i] = 10*i, 100*i, 10*i+5, 100*i+50
	}
	wantFill(t, times, values, ask, want)
	wantFill(t, times, values, times, values)
}

// drawnKnown: so many times and values, of small or great numbers.
func drawnKnown(d *rand.Rand, n, clock, value int) (times, values []int) {
	for len(times) < n {
		times, values = append(times, d.IntN(clock+1)), append(values, d.IntN(value+1))
		slices.Sort(times)
		times = slices.Compact(times)
		values = values[:len(times)]
	}
	slices.Sort(values)
	return times, values
}

// P14.2: drawn ones, held against numbers of any size.
func TestDrawnFill(t *testing.T) {
	d := rand.New(rand.NewPCG(14, 4))
	for i := range 5000 {
		clock, value := 60, 300
		if i%2 == 1 {
			clock, value = api.MaxClock, api.MaxValue
		}
		times, values := drawnKnown(d, 1+d.IntN(api.MaxKnown), clock, value)
		ask, want := make([]int, d.IntN(api.MaxKnown+1)), []int(nil)
		for k := range ask {
			ask[k] = d.IntN(clock + 1)
			if d.IntN(4) == 0 {
				ask[k] = min(times[d.IntN(len(times))]+d.IntN(3), clock)
			}
			want = append(want, shown(times, values, ask[k]))
		}
		wantFill(t, times, values, ask, want)
	}
}

// P14.2: what is filled in never falls, and is what is known where it is known.
func TestNeverFalls(t *testing.T) {
	d := rand.New(rand.NewPCG(14, 5))
	for range 2000 {
		times, values := drawnKnown(d, 1+d.IntN(12), 49, 1+d.IntN(1000))
		ask := make([]int, 50)
		for k := range ask {
			ask[k] = k
		}
		l, e := meter.Fill(times, values, ask)
		if !slices.IsSorted(l) || e != api.OK {
			t.Fatalf("Fill(%v, %v, all): %v, %d", times, values, l, e)
		}
		for i, x := range times {
			if l[x] != values[i] {
				t.Fatalf("Fill(%v, %v, all): %v", times, values, l)
			}
		}
	}
}

// P14.2: none known, too many, or lists of unlike length.
func TestFillSize(t *testing.T) {
	noFill(t, nil, nil, nil, api.ErrSize)
	noFill(t, []int{}, []int{}, []int{1}, api.ErrSize)
	noFill(t, []int{1, 2}, []int{1}, []int{1}, api.ErrSize)
	noFill(t, []int{1}, []int{1, 2}, []int{1}, api.ErrSize)
	noFill(t, nil, []int{1}, nil, api.ErrSize)
	noFill(t, []int{1}, nil, nil, api.ErrSize)
	many := make([]int, api.MaxKnown+1)
	for i := range many {
		many[i] = i
	}
	most := many[:api.MaxKnown]
	noFill(t, many, many, nil, api.ErrSize)
	noFill(t, most, many, nil, api.ErrSize)
	noFill(t, many, most, nil, api.ErrSize)
	noFill(t, most, most, many, api.ErrSize)
	noFill(t, []int{0}, []int{0}, make([]int, 100000), api.ErrSize)
	wantFill(t, most, most, most, most)
}

// P14.2: times and values beyond what may be, at each place.
func TestFillRange(t *testing.T) {
	for _, x := range []int{-1, math.MinInt, math.MaxInt, api.MaxClock + 1, api.MaxValue + 1} {
		noFill(t, []int{x}, []int{0}, nil, api.ErrRange)
		noFill(t, []int{x, 5}, []int{0, 1}, nil, api.ErrRange)
		noFill(t, []int{5, x}, []int{0, 1}, nil, api.ErrRange)
		noFill(t, []int{5}, []int{0}, []int{x}, api.ErrRange)
		noFill(t, []int{5, 6}, []int{0, 1}, []int{0, 7, x}, api.ErrRange)
		noFill(t, []int{5, 6}, []int{0, 1}, []int{x, 0, 7}, api.ErrRange)
		if x != api.MaxClock+1 {
			noFill(t, []int{5}, []int{x}, nil, api.ErrRange)
			noFill(t, []int{5, 6}, []int{x, 1}, []int{0}, api.ErrRange)
			noFill(t, []int{5, 6}, []int{1, x}, []int{0}, api.ErrRange)
		}
	}
	wantFill(t, []int{0, api.MaxClock}, []int{0, api.MaxClock + 1}, []int{0, api.MaxClock}, []int{0, api.MaxClock + 1})
}

// P14.2: times that do not rise, values that fall.
func TestFillState(t *testing.T) {
	noFill(t, []int{5, 5}, []int{0, 1}, nil, api.ErrState)
	noFill(t, []int{5, 5}, []int{1, 1}, []int{5}, api.ErrState)
	noFill(t, []int{5, 4}, []int{0, 1}, []int{5}, api.ErrState)
	noFill(t, []int{1, 2, 2}, []int{0, 1, 2}, nil, api.ErrState)
	noFill(t, []int{1, 3, 2}, []int{0, 1, 2}, nil, api.ErrState)
	noFill(t, []int{1, 2, 3}, []int{0, 2, 1}, nil, api.ErrState)
	noFill(t, []int{1, 2, 3}, []int{1, 0, 2}, []int{2}, api.ErrState)
	wantFill(t, []int{1, 2, 3}, []int{1, 1, 1}, []int{2, 9}, []int{1, 1})
}

// P14.2: of several that apply the one that is named first.
func TestFillWhichFirst(t *testing.T) {
	noFill(t, []int{5, -1}, []int{1}, nil, api.ErrSize)
	noFill(t, []int{5, 4}, []int{1}, []int{-1}, api.ErrSize)
	noFill(t, []int{-1}, []int{1}, make([]int, api.MaxKnown+1), api.ErrSize)
	noFill(t, []int{5, 4}, []int{0, 1}, []int{-1}, api.ErrRange)
	noFill(t, []int{5, 4}, []int{0, -1}, nil, api.ErrRange)
	noFill(t, []int{5, 6}, []int{1, 0}, []int{api.MaxClock + 1}, api.ErrRange)
}

// P14.2: what is answered is new memory, and what is handed in stays as it is, its spare room too.
func TestFillMemory(t *testing.T) {
	times, keptTimes := roomy(-7, 10, 20)
	values, keptValues := roomy(-7, 0, 100)
	ask, keptAsk := roomy(-7, 25, 10)
	a, _ := meter.Fill(times, values, ask)
	b, _ := meter.Fill(times, values, ask)
	fill(a, -9)
	wantKept(t, times, keptTimes)
	wantKept(t, values, keptValues)
	wantKept(t, ask, keptAsk)
	if !slices.Equal(b, []int{150, 0}) {
		t.Error("two answers share memory:", b)
	}
}
