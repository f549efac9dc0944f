package shift_test

import (
	"math/big"
	"math/rand/v2"
	"slices"
	"strings"
	"testing"

	"gridworks/api"
	"gridworks/shift"
)

// P5.3: the triangle of chapter 4, each line in its turn.
func TestAfter(t *testing.T) {
	n := triangle()
	wantAfter(t, n, lacking(n), words("1 1 4"), 2, words("5 5 0"))
	wantAfter(t, n, lacking(n), words("1 1 4"), 0, words("0 0 5"))
	wantAfter(t, n, lacking(n), words("1 1 4"), 1, words("0 0 5"))
	wantAfter(t, n, lacking(n), words("3/5 -2/5 2/5"), 0, words("0 -1 1"))
	wantAfter(t, n, lacking(n), words("3/5 -2/5 2/5"), 1, words("1 0 0"))
	wantAfter(t, n, lacking(n), words("-1 -1 -4"), 2, words("-5 -5 0"))
}

// P5.3: flows are taken as they are told, be they a state's or not.
func TestAfterAnyFlows(t *testing.T) {
	n := triangle()
	wantAfter(t, n, lacking(n), words("7 -3 1/2"), 2, words("15/2 -5/2 0"))
	wantAfter(t, n, lacking(n), words("7 -3 0"), 2, words("7 -3 0"))
	wantAfter(t, n, lacking(n), words("0 0 0"), 0, words("0 0 0"))
	n = network(2, []wire{{0, 1, 1}, {1, 0, 2}, {0, 1, 3}}, nil)
	wantAfter(t, n, lacking(n), words("10 20 30"), 0, words("0 16 36"))
	wantAfter(t, n, lacking(n), words("1/7 1/7 -1/7"), 1, words("3/28 0 -1/4"))
}

// P5.3: of a line that is out: what was told; of one in another island, too.
func TestAfterUntouched(t *testing.T) {
	n := network(4, []wire{{0, 1, 1}, {0, 1, 2}, {0, 1, 3}, {2, 3, 1}}, nil)
	wantAfter(t, n, lacking(n, 1), words("6 -5/3 4 9"), 0, words("0 -5/3 10 9"))
	wantAfter(t, n, lacking(n, 1, 3), words("6 17 4 -9"), 2, words("10 17 0 -9"))
	n = network(3, []wire{{0, 1, 3}, {1, 2, 5}, {0, 2, 7}}, []wire{{2, 0, 0}})
	wantAfter(t, n, lacking(n), words("1 2 3"), 2, words("1 2 0"))
}

// P5.3: what After tells of a state's flows is what chapter 4 tells of the same feeds without k.
func TestDrawnAfter(t *testing.T) {
	d := rand.New(rand.NewPCG(5, 5))
	count := 0
	for range 150 {
		n, out := drawn(d, api.MaxBuses, api.MaxLines, 5, api.MaxWorth)
		feed := drawnFeeds(t, d, n, out)
		flows := flowsOf(t, n, out, feed)
		if slices.ContainsFunc(flows, func(s string) bool { return len(s) > api.MaxLong }) {
			t.Fatal("a flow is too long for this test")
		}
		for _, k := range movable(t, n, out) {
			less := slices.Clone(out)
			less[k] = true
			wantAfter(t, n, out, flows, k, flowsOf(t, n, less, feed))
			count++
		}
	}
	if count < 500 {
		t.Error("few lines could go out:", count)
	}
}

// P5.3: one line after the other, until none can go out any more.
func TestAfterEachOther(t *testing.T) {
	d := rand.New(rand.NewPCG(5, 6))
	for range 30 {
		n, out := drawn(d, 8, api.MaxLines, 3, 50)
		feed := drawnFeeds(t, d, n, out)
		flows := flowsOf(t, n, out, feed)
		for left := movable(t, n, out); len(left) > 0; left = movable(t, n, out) {
			k := left[d.IntN(len(left))]
			after, e := shift.After(n, out, flows, k)
			if e != api.OK {
				t.Fatalf("After(%+v, %v, %q, %d): %d", n, out, flows, k, e)
			}
			flows, out[k] = after, true
		}
		if !slices.Equal(flows, flowsOf(t, n, out, feed)) {
			t.Errorf("%+v, %v, %q: %q", n, out, feed, flows)
		}
	}
}

// P5.3: After of any flows is each line's flow, and its part of Moves times that of k.
func TestAfterIsMoves(t *testing.T) {
	d := rand.New(rand.NewPCG(5, 7))
	for range 60 {
		n, out := drawn(d, 8, 16, 3, 30)
		flows := make([]string, len(n.Lines))
		for i := range flows {
			flows[i] = big.NewRat(int64(d.IntN(2001)-1000), int64(1+d.IntN(99))).RatString()
		}
		for _, k := range movable(t, n, out) {
			m, _ := shift.Moves(n, out, k)
			want := make([]string, len(m))
			for i := range m {
				want[i] = plus(t, flows[i], m[i], flows[k])
			}
			want[k] = "0"
			wantAfter(t, n, out, flows, k, want)
		}
	}
}

// P5.3: flows of MaxLong bytes are taken; what comes of them may be longer.
func TestAfterLong(t *testing.T) {
	n := network(2, []wire{{0, 1, 1}, {1, 0, 2}, {0, 1, 3}}, nil)
	nines := strings.Repeat("9", api.MaxLong)
	less := strings.Repeat("9", api.MaxLong-1)
	wantAfter(t, n, lacking(n, 1), []string{nines, "1", nines}, 0, []string{"0", "1", "1" + less + "8"})
	wantAfter(t, n, lacking(n, 1), []string{"-" + less, "-" + less, "1"}, 0, []string{"0", "-" + less, "-" + less[1:] + "8"})
	under := "1/1" + strings.Repeat("0", api.MaxLong-3)
	wantAfter(t, n, lacking(n), []string{"0", under, "0"}, 1, []string{"-1/4" + under[3:], "0", "-3/4" + under[3:]})
	over := "1/" + strings.Repeat("9", api.MaxLong-2)
	wantAfter(t, n, lacking(n), []string{under, nines, over}, 0, []string{"0", plus(t, nines, "-2/5", under), plus(t, over, "3/5", under)})
	n = largest()
	flows := slices.Repeat([]string{under}, len(n.Lines))
	flows[7] = over
	m, _ := shift.Moves(n, lacking(n), 7)
	want := make([]string, len(flows))
	for i := range want {
		want[i] = plus(t, flows[i], m[i], over)
	}
	want[7] = "0"
	wantAfter(t, n, lacking(n), flows, 7, want)
}

// P5.3: what is answered is new memory, and what is handed in stays as it is, its spare room too.
func TestAfterOwnMemory(t *testing.T) {
	n := triangle()
	out := append(make([]bool, 0, 8), false, false, false)
	flows := append(make([]string, 0, 8), "1", "1", "4")
	a, _ := shift.After(n, out, flows, 2)
	r, _ := shift.After(n, out, flows, 2)
	a = a[:cap(a)]
	for i := range a {
		a[i] = "x"
	}
	if !slices.Equal(r, words("5 5 0")) {
		t.Error(r)
	}
	wantAfter(t, n, out, flows, 2, words("5 5 0"))
	if !slices.Equal(flows[:8], []string{"1", "1", "4", "", "", "", "", ""}) || slices.Contains(out[:8], true) {
		t.Error(flows[:8], out[:8])
	}
	if !slices.Equal(n.Lines, triangle().Lines) || !slices.Equal(n.Buses, triangle().Buses) {
		t.Error(n)
	}
}
