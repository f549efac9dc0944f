package protect_test

import (
	"math"
	"math/rand/v2"
	"slices"
	"testing"

	"gridworks/api"
	"gridworks/protect"
)

func wantDiffers(t *testing.T, l []complex128, slack, percent int, want bool) {
	t.Helper()
	if ok, e := protect.Differs(l, slack, percent); ok != want || e != api.OK {
		t.Errorf("Differs(%v, %d, %d): %v, %d; %v is wanted", l, slack, percent, ok, e, want)
	}
}

// noDiffers: whether Differs refuses, with nothing beside it.
func noDiffers(t *testing.T, l []complex128, slack, percent int, want api.Errno) {
	t.Helper()
	if ok, e := protect.Differs(l, slack, percent); ok || e != want {
		t.Errorf("Differs(%v, %d, %d): %v, %d; %d is wanted", l, slack, percent, ok, e, want)
	}
}

func wantZone(t *testing.T, v, i, dir complex128, reach []int, want int) {
	t.Helper()
	if k, e := protect.Zone(v, i, dir, reach); k != want || e != api.OK {
		t.Errorf("Zone(%v, %v, %v, %v): %d, %d; %d is wanted", v, i, dir, reach, k, e, want)
	}
}

func noZone(t *testing.T, v, i, dir complex128, reach []int, want api.Errno) {
	t.Helper()
	if k, e := protect.Zone(v, i, dir, reach); k != 0 || e != want {
		t.Errorf("Zone(%v, %v, %v, %v): %d, %d; %d is wanted", v, i, dir, reach, k, e, want)
	}
}

func wantGrade(t *testing.T, behind []int, base, step int, want ...int) {
	t.Helper()
	if l, e := protect.Grade(behind, base, step); !slices.Equal(l, want) || e != api.OK {
		t.Errorf("Grade(%v, %d, %d): %v, %d; %v is wanted", behind, base, step, l, e, want)
	}
}

func noGrade(t *testing.T, behind []int, base, step int, want api.Errno) {
	t.Helper()
	if l, e := protect.Grade(behind, base, step); len(l) > 0 || e != want {
		t.Errorf("Grade(%v, %d, %d): %v, %d; %d is wanted", behind, base, step, l, e, want)
	}
}

// wantClear: the breakers that open, step by step, and which parts are dark, by a text: 1 is dark.
func wantClear(t *testing.T, p plant, fault int, dark string, steps ...[]int) {
	t.Helper()
	s, d, e := protect.Clear(p.parts, p.cuts, fault, p.stuck)
	if !slices.EqualFunc(s, steps, slices.Equal[[]int]) || text(d) != dark || e != api.OK {
		t.Errorf("Clear(%v, %d): %v, %s, %d; %v, %s is wanted", p, fault, s, text(d), e, steps, dark)
	}
}

func noClear(t *testing.T, p plant, fault int, want api.Errno) {
	t.Helper()
	if s, d, e := protect.Clear(p.parts, p.cuts, fault, p.stuck); len(s) > 0 || len(d) > 0 || e != want {
		t.Errorf("Clear(%v, %d): %v, %v, %d; %d is wanted", p, fault, s, d, e, want)
	}
}

// text of bools: 1 is so.
func text(l []bool) string {
	s := make([]byte, len(l))
	for i := range l {
		s[i] = '0'
		if l[i] {
			s[i] = '1'
		}
	}
	return string(s)
}

// plant: parts, and breakers between them.
type plant struct {
	parts int
	cuts  []api.Cut
	stuck []bool
}

// laid: a plant of so many parts, each breaker by the parts it stands between (a letter each, from a on), a ! behind it: it is stuck.
func laid(parts int, breakers ...string) plant {
	p := plant{parts: parts}
	for _, s := range breakers {
		p.cuts = append(p.cuts, api.Cut{A: int(s[0] - 'a'), B: int(s[1] - 'a')})
		p.stuck = append(p.stuck, len(s) > 2)
	}
	return p
}

// drawnPlant: one in so many of its breakers is stuck.
func drawnPlant(d *rand.Rand, parts, cuts, stuck int) plant {
	p := plant{parts: parts}
	for range cuts {
		a := d.IntN(parts)
		p.cuts = append(p.cuts, api.Cut{A: a, B: (a + 1 + d.IntN(parts-1)) % parts})
		p.stuck = append(p.stuck, d.IntN(stuck) == 0)
	}
	return p
}

// noParts: what is no part of a current, nor of a voltage.
func noParts(most float64) []float64 {
	return []float64{
		math.NaN(), math.Inf(1), math.Inf(-1), 0.5, -0.5, 1.5, -0.25, most - 0.5, most + 0.5, most + 1, -most - 1, -most - 0.5,
		math.Nextafter(1, 2), math.Nextafter(1, 0), math.Nextafter(most, most+1), math.SmallestNonzeroFloat64, 1e-300,
		math.MaxFloat64, -math.MaxFloat64, math.MaxInt64, math.MinInt64, 1 << 32, 1 << 53, 1 << 62, 1e300,
	}
}

// drawnPhase: parts at most so great in size; now and then at the edge.
func drawnPhase(d *rand.Rand, most int) complex128 {
	part := func() float64 {
		switch d.IntN(12) {
		case 0:
			return float64(most)
		case 1:
			return float64(-most)
		case 2:
			return math.Copysign(0, -1)
		}
		return float64(d.IntN(2*most+1) - most)
	}
	return complex(part(), part())
}

// roomy: a list with spare room, and a copy of it with that.
func roomy[T any](spare T, l ...T) (list, kept []T) {
	list = append(append(make([]T, 0, len(l)+5), l...), spare, spare)[:len(l)]
	return list, slices.Clone(list[:cap(list)])
}

func wantKept[T comparable](t *testing.T, l, kept []T) {
	t.Helper()
	if !slices.Equal(l[:cap(l)], kept) {
		t.Errorf("changed: %v; %v is wanted", l[:cap(l)], kept)
	}
}

// fill a list with what it hasn't, its spare room too.
func fill[T any](l []T, x T) {
	l = l[:cap(l)]
	for i := range l {
		l[i] = x
	}
}
