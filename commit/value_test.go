package commit_test

import (
	"math/rand/v2"
	"slices"
	"strings"
	"testing"

	"gridworks/api"
	"gridworks/commit"
)

// P9.3: what is generated, each at its Cost, and Start whenever one is turned on.
func TestValue(t *testing.T) {
	l := []api.Unit{example()}
	wantValue(t, l, []int{0, 20, 30}, noughts(3), hours("0", "1", "1"), 200)
	wantValue(t, l, []int{10, 20, 30}, noughts(3), hours("1", "1", "1"), 100+20+40+60)
	wantValue(t, l, []int{50, 50, 0}, noughts(3), hours("1", "1", "0"), 100+100+100)
	wantValue(t, l, []int{10, 11, 0, 12, 13}, noughts(5), hours("1", "1", "0", "1", "1"), 100+20+22+100+24+26)
	wantValue(t, l, noughts(4), noughts(4), hours("0", "0", "0", "0"), 0)
	l[0].Was = 3
	wantValue(t, l, []int{10, 20, 30}, noughts(3), hours("1", "1", "1"), 20+40+60)
	wantValue(t, l, []int{0, 20, 30}, noughts(3), hours("0", "1", "1"), 200)
	wantValue(t, l, noughts(2), noughts(2), hours("0", "0"), 0)
}

// P9.3: units together: the cheapest ones first, hour by hour, and each its own Start.
func TestValueOfSeveral(t *testing.T) {
	l := []api.Unit{free(5, 20, 7), free(0, 10, 2), free(1, 30, 3)}
	l[0].Start, l[1].Start, l[2].Start = 1000, 2000, 4000
	l[0].Was, l[2].Was = -1, -1
	wantValue(t, l, []int{10, 40}, []int{0, 3}, hours("010", "111"), 20+5*7+10*2+25*3+5000)
	wantValue(t, l, []int{6, 0}, []int{44, 0}, hours("101", "000"), 5*7+1*3+5000)
	wantValue(t, l, []int{6, 3, 7}, noughts(3), hours("101", "010", "110"), 5*7+3+5000+3*2+2000+5*7+2*2+1000)
}

// long: a unit that is on (or off) for so many hours, then turned.
func long(count int, turned string) [][]bool {
	was := map[string]string{"0": "1", "1": "0"}[turned]
	return hours(strings.Split(strings.Repeat(was, count)+turned, "")...)
}

// P9.3: on may be turned one that has been off for Down hours or more, off one that has been on for Up hours or more; hours ahead count.
func TestTimes(t *testing.T) {
	for stay := 1; stay <= api.MaxStay; stay++ {
		for _, was := range []int{1, 2, 3, 4, api.MaxWas} {
			for count := range api.MaxHours {
				off, on := []api.Unit{stays(1, stay, -was)}, []api.Unit{stays(stay, 1, was)}
				n := noughts(count + 1)
				if was+count >= stay {
					wantValue(t, off, n, n, long(count, "1"), 0)
					wantValue(t, on, n, n, long(count, "0"), 0)
				} else {
					noValue(t, off, n, n, long(count, "1"), api.ErrShut)
					noValue(t, on, n, n, long(count, "0"), api.ErrShut)
				}
			}
		}
	}
}

// P9.3: what was turned within the schedule stays its hours, whatever was ahead; Up is not asked of what is off, nor Down of what is on.
func TestTimesWithin(t *testing.T) {
	n := noughts(6)
	for _, k := range []struct {
		u        api.Unit
		on       string
		tooEarly bool
	}{
		{stays(3, 2, -api.MaxWas), "111001", false},
		{stays(3, 2, -api.MaxWas), "110011", true},
		{stays(3, 2, -api.MaxWas), "111011", true},
		{stays(3, 2, -api.MaxWas), "011100", false},
		{stays(3, 2, -api.MaxWas), "000001", false},
		{stays(2, 3, api.MaxWas), "000110", false},
		{stays(2, 3, api.MaxWas), "001111", true},
		{stays(2, 3, api.MaxWas), "000100", true},
		{stays(2, 3, api.MaxWas), "110001", false},
		{stays(1, 1, 1), "010101", false},
		{stays(1, 1, -1), "101010", false},
		{stays(1, 2, -2), "100100", false},
		{stays(2, 1, 2), "011011", false},
		{stays(1, 2, 2), "010000", true},
		{stays(2, 1, -2), "101111", true},
	} {
		l, on := []api.Unit{k.u}, hours(strings.Split(k.on, "")...)
		if k.tooEarly {
			noValue(t, l, n, n, on, api.ErrShut)
		} else {
			wantValue(t, l, n, n, on, 0)
		}
	}
}

// P9.3: the Most of those that are on is at least need and spare, together; what is spare is not paid for.
func TestSpare(t *testing.T) {
	l := []api.Unit{free(10, 50, 2), free(0, 30, 1)}
	wantValue(t, l, []int{50}, []int{0}, hours("10"), 100)
	wantValue(t, l, []int{40}, []int{10}, hours("10"), 80)
	noValue(t, l, []int{40}, []int{11}, hours("10"), api.ErrSum)
	noValue(t, l, []int{50}, []int{1}, hours("10"), api.ErrSum)
	wantValue(t, l, []int{40}, []int{40}, hours("11"), 10*2+30)
	noValue(t, l, []int{40}, []int{41}, hours("11"), api.ErrSum)
	wantValue(t, l, []int{0, 10}, []int{0, 20}, hours("00", "01"), 10)
	noValue(t, l, []int{0}, []int{1}, hours("00"), api.ErrSum)
	noValue(t, l, []int{5, 0}, []int{0, api.MaxUnits * api.MaxPower}, hours("01", "01"), api.ErrSum)
}

// P9.4: what is needed cannot be: too much at least, or too little at most.
func TestNeed(t *testing.T) {
	l := []api.Unit{free(10, 50, 2), free(5, 30, 1)}
	noValue(t, l, []int{9}, []int{0}, hours("10"), api.ErrSum)
	noValue(t, l, []int{14}, []int{0}, hours("11"), api.ErrSum)
	noValue(t, l, []int{81}, []int{0}, hours("11"), api.ErrSum)
	noValue(t, l, []int{1}, []int{0}, hours("00"), api.ErrSum)
	noValue(t, l, []int{15, 51}, []int{0, 0}, hours("11", "10"), api.ErrSum)
	wantValue(t, l, []int{15, 50}, []int{0, 0}, hours("11", "10"), 20+5+100)
}

// P9.4: hour by hour, in each hour all units' times ahead of what is needed.
func TestHourByHour(t *testing.T) {
	l := []api.Unit{free(10, 50, 2), stays(3, 3, -1)}
	noValue(t, l, []int{51, 20}, noughts(2), hours("10", "11"), api.ErrSum)
	noValue(t, l, []int{20, 51}, noughts(2), hours("10", "11"), api.ErrShut)
	noValue(t, l, []int{51, 20}, noughts(2), hours("11", "10"), api.ErrShut)
	noValue(t, l, []int{20, 51}, noughts(2), hours("11", "10"), api.ErrShut)
	noValue(t, l, []int{20, 51, 20}, noughts(3), hours("10", "10", "10"), api.ErrSum)
	noValue(t, l, []int{20, 20, 9}, noughts(3), hours("10", "11", "10"), api.ErrShut)
	noValue(t, l, []int{20, 20}, []int{31, 0}, hours("10", "11"), api.ErrSum)
	noValue(t, l, []int{20, 20}, []int{0, 31}, hours("10", "11"), api.ErrShut)
}

// P9.4: no hours cost nothing; no units generate nothing.
func TestValueOfLittle(t *testing.T) {
	wantValue(t, nil, nil, nil, nil, 0)
	wantValue(t, []api.Unit{}, []int{}, []int{}, [][]bool{}, 0)
	wantValue(t, []api.Unit{example()}, nil, nil, nil, 0)
	wantValue(t, nil, noughts(2), noughts(2), [][]bool{nil, {}}, 0)
	noValue(t, nil, []int{0, 1}, noughts(2), [][]bool{nil, nil}, api.ErrSum)
	noValue(t, nil, noughts(2), []int{1, 0}, [][]bool{nil, nil}, api.ErrSum)
}

// greatest: as many units as may be, as dear as may be, which have long been off.
func greatest() []api.Unit {
	return slices.Repeat([]api.Unit{{Most: api.MaxPower, Cost: api.MaxCost, Start: api.MaxStart, Up: 1, Down: 1, Was: -api.MaxWas}}, api.MaxUnits)
}

// P9.4: the greatest cost; and of the most hours the most starts.
func TestValueOfMost(t *testing.T) {
	l := greatest()
	full := slices.Repeat([]int{api.MaxUnits * api.MaxPower}, api.MaxHours)
	wantValue(t, l, full, noughts(8), slices.Repeat(hours("1111"), api.MaxHours), api.MaxHours*api.MaxUnits*api.MaxPower*api.MaxCost+api.MaxUnits*api.MaxStart)
	wantValue(t, l, noughts(8), noughts(8), slices.Repeat(hours("1111", "0000"), api.MaxHours/2), api.MaxHours/2*api.MaxUnits*api.MaxStart)
	wantValue(t, l, noughts(8), full, slices.Repeat(hours("1111"), api.MaxHours), api.MaxUnits*api.MaxStart)
	noValue(t, l, full, append(noughts(7), 1), slices.Repeat(hours("1111"), api.MaxHours), api.ErrSum)
	noValue(t, l, full, full, slices.Repeat(hours("1111"), api.MaxHours), api.ErrSum)
}

// P9.4: drawn schedules, by the tests' own judge.
func TestDrawnValues(t *testing.T) {
	d := rand.New(rand.NewPCG(9, 4))
	kinds := map[api.Errno]int{}
	for range 40000 {
		l := drawnUnits(d, d.IntN(api.MaxUnits+1))
		n := d.IntN(5)
		need, spare, on := drawnPowers(d, n, 15), drawnPowers(d, n, 5), drawnOn(d, len(l), n)
		if d.IntN(2) == 0 { // most schedules turn something too early
			for h := 1; h < n; h++ {
				on[h] = slices.Clone(on[0])
			}
		}
		want, e := judged(l, need, spare, on)
		kinds[e]++
		if cost, f := commit.Value(l, need, spare, on); cost != want || f != e {
			t.Fatalf("Value(%+v, %v, %v, %v): %d, %d; %d, %d is wanted", l, need, spare, on, cost, f, want, e)
		}
	}
	if len(kinds) != 3 || min(kinds[api.OK], kinds[api.ErrShut], kinds[api.ErrSum]) < 3000 {
		t.Error("too few of a kind:", kinds)
	}
}

// P9.4: what is handed in stays as it is, its spare room too; and the same is told again.
func TestValueOwnMemory(t *testing.T) {
	l := append(make([]api.Unit, 0, 6), example(), free(0, 40, 1))
	need, spare := append(make([]int, 0, 6), 20, 40, 5), append(make([]int, 0, 6), 1, 2, 3)
	on := append(make([][]bool, 0, 6), append(make([]bool, 0, 6), false, true), append(make([]bool, 0, 6), true, true), append(make([]bool, 0, 6), true, false))
	need[2] = 15
	for range 3 {
		wantValue(t, l, need, spare, on, 20+100+10*2+30+15*2)
	}
	if !slices.Equal(l[:6], append([]api.Unit{example(), free(0, 40, 1)}, make([]api.Unit, 4)...)) ||
		!slices.Equal(need[:6], []int{20, 40, 15, 0, 0, 0}) || !slices.Equal(spare[:6], []int{1, 2, 3, 0, 0, 0}) ||
		!same(on[:6], [][]bool{{false, true}, {true, true}, {true, false}, nil, nil, nil}) {
		t.Error(l[:6], need[:6], spare[:6], on[:6])
	}
	for _, hour := range on {
		if slices.Contains(hour[2:6], true) {
			t.Error(hour[:6])
		}
	}
}
