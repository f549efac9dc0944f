package shift_test

import (
	"math"
	"slices"
	"strings"
	"testing"

	"gridworks/api"
)

// bent networks: of each why it may not be is told in chapter 2.
func bent() []api.Net {
	bend := func(f func(n *api.Net)) api.Net {
		n := network(3, []wire{{0, 1, 1}, {1, 2, 1}}, []wire{{0, 2, 0}})
		f(&n)
		return n
	}
	return []api.Net{
		{},
		bend(func(n *api.Net) { n.Name = "a b" }),
		bend(func(n *api.Net) { n.Buses[1] = "b0" }),
		bend(func(n *api.Net) { n.Buses[2] = strings.Repeat("b", api.MaxName+1) }),
		bend(func(n *api.Net) { n.Lines[1].To = 3 }),
		bend(func(n *api.Net) { n.Lines[0].From = -1 }),
		bend(func(n *api.Net) { n.Lines[0].To = 0 }),
		bend(func(n *api.Net) { n.Lines[0].Worth = 0 }),
		bend(func(n *api.Net) { n.Lines[0].Worth = api.MaxWorth + 1 }),
		bend(func(n *api.Net) { n.Lines[0].Limit = -1 }),
		bend(func(n *api.Net) { n.Ties[0].From = 3 }),
		bend(func(n *api.Net) { n.Ties[0].To, n.Ties[0].Closed = -1, false }),
		bend(func(n *api.Net) { n.Loads = []api.Load{{Name: "d", Bus: 3}} }),
		bend(func(n *api.Net) { n.Gens = []api.Gen{{Name: "g", Least: 2, Most: 1}} }),
		network(api.MaxBuses+1, nil, nil),
		network(2, slices.Repeat([]wire{{0, 1, 1}}, api.MaxLines+1), nil),
		network(0, []wire{{0, 1, 1}}, nil),
	}
}

// P5.1, P5.2, P5.3: a network that may not be, whatever else is wrong.
func TestMayNotBe(t *testing.T) {
	for _, n := range bent() {
		for _, out := range [][]bool{lacking(n), nil, make([]bool, len(n.Lines)+1), slices.Repeat([]bool{true}, len(n.Lines))} {
			unshared(t, n, out, api.ErrState)
			for _, k := range []int{0, 1, -1, len(n.Lines), math.MaxInt, math.MinInt} {
				unmovable(t, n, out, k, api.ErrState)
			}
		}
	}
}

// P5.1, P5.2, P5.3: what tells which lines are out must be as long as there are lines; ahead of whether there is a line k, and of what it is.
func TestSizes(t *testing.T) {
	for _, n := range []api.Net{{Name: "n"}, network(2, nil, []wire{{0, 1, 0}}), triangle()} {
		for size := range 6 {
			if size == len(n.Lines) {
				continue
			}
			for _, is := range []bool{false, true} {
				out := slices.Repeat([]bool{is}, size)
				unshared(t, n, out, api.ErrSize)
				for _, k := range []int{0, 2, -1, 3, 4, math.MaxInt, math.MinInt} {
					unmovable(t, n, out, k, api.ErrSize)
				}
			}
		}
	}
	unshared(t, triangle(), nil, api.ErrSize)
	unmovable(t, triangle(), nil, 0, api.ErrSize)
}

// P5.2, P5.3: there is no line k.
func TestNoSuchLine(t *testing.T) {
	n := triangle()
	for _, k := range []int{-1, 3, 4, -3, 1 << 32, math.MaxInt, math.MinInt} {
		unmovable(t, n, lacking(n), k, api.ErrRange)
		unmovable(t, n, lacking(n, 0, 1, 2), k, api.ErrRange)
	}
	unmovable(t, api.Net{Name: "n"}, nil, 0, api.ErrRange)
	unmovable(t, network(2, nil, []wire{{0, 1, 0}}), nil, 0, api.ErrRange)
}

// P5.2, P5.3: it is out already, be its island whole or not.
func TestOutAlready(t *testing.T) {
	n := triangle()
	for k := range 3 {
		unmovable(t, n, lacking(n, k), k, api.ErrKind)
		unmovable(t, n, lacking(n, 0, 1, 2), k, api.ErrKind)
	}
}

// P5.2, P5.3: without it its island is two: a line that alone joins two, all others being out, or only an open tie beside it.
func TestSplit(t *testing.T) {
	n := triangle()
	unmovable(t, n, lacking(n, 0), 1, api.ErrSplit)
	unmovable(t, n, lacking(n, 0), 2, api.ErrSplit)
	unmovable(t, n, lacking(n, 1, 2), 0, api.ErrSplit)
	n = network(2, []wire{{0, 1, 1}, {1, 0, 1}}, nil)
	unmovable(t, n, lacking(n, 1), 0, api.ErrSplit)
	n = network(2, []wire{{1, 0, 1}}, []wire{{0, 1, 0}})
	wantMoves(t, n, lacking(n), 0, "-1")
	wantAfter(t, n, lacking(n), []string{"5"}, 0, []string{"0"})
	n.Ties[0].Closed = false
	unmovable(t, n, lacking(n), 0, api.ErrSplit)
	n = network(6, []wire{{0, 1, 1}, {1, 2, 1}, {2, 0, 1}, {3, 4, 1}, {4, 5, 1}, {5, 3, 1}, {2, 3, 10000}}, nil)
	unmovable(t, n, lacking(n), 6, api.ErrSplit)
	wantMoves(t, n, lacking(n), 4, "0 0 0 -1 -1 -1 0")
}

// P5.3: as many flows as lines, none of more than MaxLong bytes; ahead of whether they are numbers in form.
func TestFlowSizes(t *testing.T) {
	n := triangle()
	untold(t, n, lacking(n), nil, 2, api.ErrSize)
	for size := range 6 {
		if size != len(n.Lines) {
			untold(t, n, lacking(n), slices.Repeat([]string{"1"}, size), 2, api.ErrSize)
			untold(t, n, lacking(n), slices.Repeat([]string{"x"}, size), 2, api.ErrSize)
		}
	}
	for _, long := range []string{
		strings.Repeat("1", api.MaxLong+1), "-" + strings.Repeat("1", api.MaxLong), "1/" + strings.Repeat("3", api.MaxLong-1),
		strings.Repeat("0", api.MaxLong+1), strings.Repeat("x", api.MaxLong+1), strings.Repeat("é", api.MaxLong/2+1), strings.Repeat("9", 1000000),
	} {
		for place := range 3 {
			flows := words("1 1 4")
			flows[place] = long
			untold(t, n, lacking(n), flows, 2, api.ErrSize)
			flows[(place+1)%3] = "x"
			untold(t, n, lacking(n), flows, 2, api.ErrSize)
			untold(t, n, lacking(n), flows, 0, api.ErrSize)
		}
	}
	n = network(2, []wire{{0, 1, 1}, {0, 1, 1}, {0, 1, 1}}, nil)
	untold(t, n, lacking(n, 1), []string{"1", strings.Repeat("1", api.MaxLong+1), "1"}, 0, api.ErrSize)
}

// P5.3: flows are numbers in form, those of lines that are out, too.
func TestFlowForms(t *testing.T) {
	n := network(2, []wire{{0, 1, 1}, {0, 1, 1}, {0, 1, 1}}, nil)
	for _, s := range []string{
		"", "x", "-", "+1", "01", "-01", "-0", "00", "1.0", "0.5", ".5", "1.", "1/1", "0/1", "2/4", "1/02", "/2", "1/", "1/0", "0/0",
		"1/-2", "-1/-2", "--1", "1//2", "1/2/3", " 1", "1 ", "1\n", "1e3", "1E3", "1e999999999", "1/1e9", "0x10", "0b1", "1_000", "Inf", "NaN", "½", "١", "1\x00", "\xff",
		strings.Repeat("0", api.MaxLong), "0" + strings.Repeat("1", api.MaxLong-1), strings.Repeat("x", api.MaxLong),
	} {
		for place := range 3 {
			flows := words("1 1 4")
			flows[place] = s
			untold(t, n, lacking(n), flows, 2, api.ErrForm)
			untold(t, n, lacking(n, 1), flows, 0, api.ErrForm)
			untold(t, n, lacking(n, 1), slices.Repeat([]string{s}, 3), 0, api.ErrForm)
		}
	}
}
