package swing_test

import (
	"math"
	"math/big"
	"math/rand/v2"
	"slices"
	"testing"

	"gridworks/api"
	"gridworks/swing"
)

var (
	nan  = math.NaN()
	inf  = math.Inf(1)
	less = math.Copysign(0, -1) // -0
)

const (
	tiny  = math.SmallestNonzeroFloat64
	small = 0x1p-1022 // the least one that is told by all of its bits
	great = math.MaxFloat64
)

// same: bit by bit; which bits no number has does not count.
func same(a, b float64) bool {
	return math.Float64bits(a) == math.Float64bits(b) || a != a && b != b
}

func wantStep(t *testing.T, f, made, drawn, damp, mass, dt, want float64) {
	t.Helper()
	if x := swing.Step(f, made, drawn, damp, mass, dt); !same(x, want) {
		t.Errorf("Step(%v, %v, %v, %v, %v, %v): %v; %v is wanted", f, made, drawn, damp, mass, dt, x, want)
	}
}

// swung: all that a run is given.
type swung struct {
	api.Swing
	damp, mass, dt float64
	made, drawn    []float64
	stages         []api.Stage
}

func (r swung) run() (api.Swing, []float64, api.Errno) {
	return swing.Run(r.Swing, r.damp, r.mass, r.dt, r.made, r.drawn, r.stages)
}

// plain: without damp, of mass and dt 1, so that F goes by what is made less what is drawn; no stage has shed.
func plain(f float64, made, drawn []float64, stages ...api.Stage) swung {
	return swung{Swing: api.Swing{F: f, Gone: make([]bool, len(stages))}, mass: 1, dt: 1, made: made, drawn: drawn, stages: stages}
}

// wantRun: F behind each step, and which stages have shed, by a text: 1 has. The swing's F is that behind the last step.
func wantRun(t *testing.T, r swung, gone string, want ...float64) {
	t.Helper()
	last := r.F
	if len(want) > 0 {
		last = want[len(want)-1]
	}
	s, l, e := r.run()
	if !same(s.F, last) || text(s.Gone) != gone || !slices.EqualFunc(l, want, same) || e != api.OK {
		t.Errorf("Run(%v): %v, %s, %v, %d; %v, %s, %v is wanted", r, s.F, text(s.Gone), l, e, last, gone, want)
	}
}

// noRun: whether Run refuses, with nothing beside it.
func noRun(t *testing.T, r swung, want api.Errno) {
	t.Helper()
	if s, l, e := r.run(); !same(s.F, 0) || len(s.Gone) > 0 || len(l) > 0 || e != want {
		t.Errorf("Run(%v): %v, %v, %d; %d is wanted", r, s, l, e, want)
	}
}

func wantLeast(t *testing.T, want float64, l ...float64) {
	t.Helper()
	if x := swing.Least(l); !same(x, want) {
		t.Errorf("Least(%v): %v; %v is wanted", l, x, want)
	}
}

// text of bools: 1 is so.
func text(l []bool) string {
	s := make([]byte, len(l))
	for i := range l {
		s[i] = '0'
		if l[i] {
			s[i] = '1'
		}
	}
	return string(s)
}

// finite: a number that is not infinite.
func finite(x float64) bool { return x-x == 0 }

// rounded: the float nearest to an exact fraction; one that is 0, or too small, has the sign that is told.
func rounded(x *big.Rat, minus bool) float64 {
	f, _ := x.Float64()
	if f == 0 && minus {
		return less
	}
	return f
}

func exactly(x float64) *big.Rat { return new(big.Rat).SetFloat64(x) }

// plus, by exact fractions, rounded behind it: the tests' own way. What is not finite, IEEE 754's rules tell.
func plus(a, b float64) float64 {
	switch {
	case finite(a) && finite(b):
		return rounded(new(big.Rat).Add(exactly(a), exactly(b)), math.Signbit(a) && math.Signbit(b))
	case a != a || b != b || !finite(a) && !finite(b) && a != b:
		return nan
	case finite(a):
		return b
	}
	return a
}

func minus(a, b float64) float64 { return plus(a, -b) }

func times(a, b float64) float64 {
	down := math.Signbit(a) != math.Signbit(b)
	switch {
	case finite(a) && finite(b):
		return rounded(new(big.Rat).Mul(exactly(a), exactly(b)), down)
	case a != a || b != b || a == 0 || b == 0:
		return nan
	case down:
		return -inf
	}
	return inf
}

func over(a, b float64) float64 {
	down := math.Signbit(a) != math.Signbit(b)
	switch {
	case finite(a) && finite(b) && b != 0:
		return rounded(new(big.Rat).Quo(exactly(a), exactly(b)), down)
	case a != a || b != b || a == 0 && b == 0 || !finite(a) && !finite(b):
		return nan
	case !finite(b) && down:
		return less
	case !finite(b):
		return 0
	case down:
		return -inf
	}
	return inf
}

// later: Step in the tests' own way.
func later(f, made, drawn, damp, mass, dt float64) float64 {
	return plus(f, over(times(minus(minus(made, drawn), times(damp, f)), dt), mass))
}

// edges: numbers at which something ends.
func edges() []float64 {
	return []float64{0, less, 1, -1, 0.1, -0.3, 3, tiny, -tiny, small, -small, math.Nextafter(small, 0), 0x1p-540, -0x1p-540, 0x1p52 + 1, 0x1p53, 0x1p540, -0x1p540, great, -great, inf, -inf, nan}
}

// drawnFloat: now and then at an edge, now and then any bits, else a common one.
func drawnFloat(d *rand.Rand) float64 {
	switch l := edges(); d.IntN(8) {
	case 0:
		return l[d.IntN(len(l))]
	case 1:
		return math.Float64frombits(d.Uint64())
	case 2:
		return float64(d.IntN(21) - 10)
	}
	return drawnCommon(d)
}

func drawnCommon(d *rand.Rand) float64 { return d.Float64()*20 - 10 }

// roomy: a list with spare room, and a copy of it with that.
func roomy[T any](spare T, l ...T) (list, kept []T) {
	list = append(append(make([]T, 0, len(l)+5), l...), spare, spare)[:len(l)]
	return list, slices.Clone(list[:cap(list)])
}

func wantKept[T comparable](t *testing.T, l, kept []T) {
	t.Helper()
	if !slices.Equal(l[:cap(l)], kept) {
		t.Errorf("changed: %v; %v is wanted", l[:cap(l)], kept)
	}
}

// fill a list with what it hasn't, its spare room too.
func fill[T any](l []T, x T) {
	l = l[:cap(l)]
	for i := range l {
		l[i] = x
	}
}
