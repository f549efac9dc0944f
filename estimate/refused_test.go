package estimate_test

import (
	"math"
	"slices"
	"strings"
	"testing"

	"gridworks/api"
)

// bent networks: of each why it may not be is told in chapter 2.
func bent() []api.Net {
	bend := func(f func(n *api.Net)) api.Net {
		n := network(3, []wire{{0, 1, 1}, {1, 2, 1}}, []wire{{0, 2, 0}})
		f(&n)
		return n
	}
	return []api.Net{
		{},
		bend(func(n *api.Net) { n.Name = "a b" }),
		bend(func(n *api.Net) { n.Buses[1] = "b0" }),
		bend(func(n *api.Net) { n.Buses[2] = strings.Repeat("b", api.MaxName+1) }),
		bend(func(n *api.Net) { n.Lines[1].To = 3 }),
		bend(func(n *api.Net) { n.Lines[0].From = -1 }),
		bend(func(n *api.Net) { n.Lines[0].To = 0 }),
		bend(func(n *api.Net) { n.Lines[0].Worth = 0 }),
		bend(func(n *api.Net) { n.Lines[0].Worth = api.MaxWorth + 1 }),
		bend(func(n *api.Net) { n.Lines[0].Limit = -1 }),
		bend(func(n *api.Net) { n.Ties[0].From = 3 }),
		bend(func(n *api.Net) { n.Ties[0].To, n.Ties[0].Closed = -1, false }),
		bend(func(n *api.Net) { n.Loads = []api.Load{{Name: "d", Bus: 3}} }),
		bend(func(n *api.Net) { n.Gens = []api.Gen{{Name: "g", Least: 2, Most: 1}} }),
		network(api.MaxBuses+1, nil, nil),
		network(2, slices.Repeat([]wire{{0, 1, 1}}, api.MaxLines+1), nil),
		network(0, []wire{{0, 1, 1}}, nil),
	}
}

// P7.1, P7.2, P7.3: a network that may not be, whatever else is wrong.
func TestMayNotBe(t *testing.T) {
	for _, n := range bent() {
		for _, out := range [][]bool{lacking(n), nil, make([]bool, len(n.Lines)+1)} {
			for _, l := range [][]api.Measure{nil, {ofAngle(0, "1", 1)}, {ofFlow(-1, "x", 0)}, {{}}, {ofAngle(0, longest+"1", 1)}, make([]api.Measure, api.MaxMeasures+1)} {
				refused(t, n, out, l, api.ErrState)
			}
		}
	}
}

// P7.1, P7.2, P7.3: what tells which lines are out must be as long as there are lines; ahead of what the measures tell.
func TestOutSizes(t *testing.T) {
	for _, n := range []api.Net{{Name: "n"}, network(2, nil, []wire{{0, 1, 0}}), triangle()} {
		for size := range 6 {
			if size == len(n.Lines) {
				continue
			}
			for _, l := range [][]api.Measure{nil, {ofAngle(0, "1", 1)}, {ofFlow(-1, "x", 0)}, {{}}, {ofAngle(0, longest+"1", 1)}, make([]api.Measure, api.MaxMeasures+1)} {
				refused(t, n, make([]bool, size), l, api.ErrSize)
				refused(t, n, slices.Repeat([]bool{true}, size), l, api.ErrSize)
			}
		}
	}
}

// P7.1, P7.2, P7.3: too many measures, or too long a Value, wherever it stands; ahead of what else is wrong with any measure.
func TestSizes(t *testing.T) {
	n := network(2, []wire{{0, 1, 1}}, nil)
	for _, m := range []api.Measure{ofAngle(1, "1", 1), ofFlow(0, "2", 3), {}, ofAngle(2, "x", 0)} {
		refused(t, n, lacking(n), slices.Repeat([]api.Measure{m}, api.MaxMeasures+1), api.ErrSize)
		refused(t, n, lacking(n), slices.Repeat([]api.Measure{m}, 1000), api.ErrSize)
	}
	l := slices.Repeat([]api.Measure{ofAngle(1, "1", 1)}, api.MaxMeasures)
	wantWorst(t, n, lacking(n), l, 0, "0")
	for _, long := range []string{longest + "1", "-" + longest, "1/1" + longest[:api.MaxDigits-2], strings.Repeat("x", api.MaxDigits+1), strings.Repeat("x", 1000000)} {
		refused(t, n, lacking(n), []api.Measure{ofAngle(1, long, 1)}, api.ErrSize)
		refused(t, n, lacking(n), []api.Measure{ofAngle(0, long, 1)}, api.ErrSize) // alone it would tell several states
		refused(t, n, lacking(n), []api.Measure{{Kind: 9, At: 9, Value: long}}, api.ErrSize)
		refused(t, n, lacking(n), []api.Measure{ofAngle(1, "x", 1), {}, ofAngle(9, "1", 1), ofAngle(1, "1", 0), ofAngle(1, long, 1)}, api.ErrSize)
	}
	refused(t, n, lacking(n), []api.Measure{ofAngle(1, strings.Repeat("x", api.MaxDigits), 1)}, api.ErrForm)
}

// P7.1, P7.2, P7.3: a Kind that is none; ahead of what else is wrong with that measure.
func TestMeasureKinds(t *testing.T) {
	n := triangle()
	fit := []api.Measure{ofFlow(0, "1", 1), ofFlow(2, "4", 1)}
	for _, kind := range []int{0, -1, 4, 1 << 32, 1<<32 + 1, math.MaxInt, math.MinInt} {
		for _, m := range []api.Measure{{At: 0, Value: "1", Weight: 1}, {At: 3, Value: "1", Weight: 1}, {At: 0, Value: "x", Weight: 1}, {At: -1, Value: "", Weight: 0}} {
			m.Kind = kind
			refused(t, n, lacking(n), []api.Measure{m}, api.ErrKind)
			for place := range 3 {
				refused(t, n, lacking(n), slices.Insert(slices.Clone(fit), place, m), api.ErrKind)
			}
		}
	}
}

// P7.1, P7.2, P7.3: At is no line or no bus, or a Weight is not from 1 to MaxWeight; ahead of a Value that is no number in form.
func TestRanges(t *testing.T) {
	wrong := []int{-1, math.MinInt, math.MaxInt, 1 << 32}
	for _, n := range []api.Net{triangle(), network(3, []wire{{0, 1, 1}}, nil), network(2, slices.Repeat([]wire{{0, 1, 1}}, 3), nil)} {
		for kind, count := range map[int]int{api.OfFlow: len(n.Lines), api.OfFeed: len(n.Buses), api.OfAngle: len(n.Buses)} {
			for _, value := range []string{"1", "x", ""} {
				for _, at := range append(wrong, count, count+1) {
					refused(t, n, lacking(n), []api.Measure{{Kind: kind, At: at, Value: value, Weight: 1}}, api.ErrRange)
					refused(t, n, lacking(n), []api.Measure{{Kind: kind, At: at, Value: value}}, api.ErrRange)
				}
				for _, weight := range append(wrong, 0, api.MaxWeight+1) {
					refused(t, n, lacking(n), []api.Measure{{Kind: kind, At: count - 1, Value: value, Weight: weight}}, api.ErrRange)
				}
			}
		}
	}
	for at := range 3 {
		refused(t, network(3, nil, nil), nil, []api.Measure{ofFlow(at, "1", 1)}, api.ErrRange)
	}
	for _, kind := range []int{api.OfFlow, api.OfFeed, api.OfAngle} {
		refused(t, api.Net{Name: "n"}, nil, []api.Measure{{Kind: kind, Value: "1", Weight: 1}}, api.ErrRange)
	}
	n := network(2, []wire{{0, 1, 1}}, nil)
	wantGuess(t, n, lacking(n), []api.Measure{ofAngle(1, "1", 1), ofAngle(1, "1", api.MaxWeight)}, []string{"0", "1"}, []string{"-1"}, []string{"0", "0"}, "0")
}

// formless: texts that are no numbers in form.
func formless() []string {
	return []string{
		"", "x", "-", "+1", "01", "-01", "-0", "00", "1.0", "0.5", ".5", "1.", "1/1", "0/1", "2/4", "1/02", "/2", "1/", "1/0", "0/0",
		"1/-2", "-1/-2", "--1", "1//2", "1/2/3", " 1", "1 ", "1\n", "1e3", "1E3", "1e999999999", "1/1e9", "0x10", "0b1", "1_000", "Inf", "NaN", "½", "١", "1\x00", "\xff",
	}
}

// P7.1, P7.2, P7.3: Values are numbers in form; ahead of whether there are several states.
func TestForms(t *testing.T) {
	n := triangle()
	for _, s := range formless() {
		refused(t, n, lacking(n), []api.Measure{ofFlow(0, s, 1)}, api.ErrForm)
		refused(t, n, lacking(n), []api.Measure{ofFlow(0, "1", 1), ofFlow(2, "4", 1), ofFeed(0, s, 1)}, api.ErrForm)
		refused(t, n, lacking(n), []api.Measure{ofAngle(0, s, 1), ofFlow(0, "1", 1), ofFlow(2, "4", 1)}, api.ErrForm)
		refused(t, n, lacking(n, 0, 1, 2), []api.Measure{ofFlow(0, s, 1)}, api.ErrForm)
	}
}

// P7.1, P7.2, P7.3: it is the first measure with which something is wrong that is told of.
func TestMeasureByMeasure(t *testing.T) {
	n := triangle()
	wrong := map[api.Errno][]api.Measure{
		api.ErrKind:  {{}, {Kind: 4, At: 9, Value: "x", Weight: 9}},
		api.ErrRange: {ofFlow(3, "x", 1), ofAngle(0, "1", 0), ofFeed(-1, "1", 1)},
		api.ErrForm:  {ofFlow(0, "x", 1), ofAngle(1, "1/1", 5)},
	}
	for first, a := range wrong {
		for _, b := range wrong {
			for _, m := range a {
				for _, k := range b {
					refused(t, n, lacking(n), []api.Measure{m, k}, first)
					refused(t, n, lacking(n), []api.Measure{ofFlow(0, "1", 1), m, ofFlow(2, "1", 1), k}, first)
				}
			}
		}
	}
}

// P7.3: `most` is a number in form, of at most MaxDigits bytes, be anything to take out or not.
func TestMost(t *testing.T) {
	n := triangle()
	l := []api.Measure{ofFlow(0, "1", 1), ofFlow(1, "1", 1), ofFlow(2, "4", 1), ofFeed(0, "8", 1)}
	for _, fit := range [][]api.Measure{l, l[:3], l[:2]} {
		for _, s := range append(formless(), strings.Repeat("x", api.MaxDigits)) {
			unclean(t, n, lacking(n), fit, s, api.ErrForm)
		}
		for _, s := range []string{longest + "1", "-" + longest, strings.Repeat("x", api.MaxDigits+1), strings.Repeat("0", 1000000)} {
			unclean(t, n, lacking(n), fit, s, api.ErrSize)
		}
	}
	unclean(t, api.Net{Name: "n"}, nil, nil, "", api.ErrForm)
	unclean(t, api.Net{Name: "n"}, nil, nil, longest+"1", api.ErrSize)
}
