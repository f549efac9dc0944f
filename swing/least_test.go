package swing_test

import (
	"math/rand/v2"
	"slices"
	"testing"

	"gridworks/swing"
)

// P12.3: the least one, wherever it stands.
func TestLeast(t *testing.T) {
	wantLeast(t, 1, 1)
	wantLeast(t, 1, 1, 2, 3)
	wantLeast(t, 1, 3, 1, 2)
	wantLeast(t, 1, 3, 2, 1)
	wantLeast(t, -3, 1, -3, 2, -2.5)
	wantLeast(t, 2, 2, 2, 2)
	wantLeast(t, -1.9, -1, -1.9)
	wantLeast(t, great, great)
	wantLeast(t, tiny, 1, tiny, small)
	wantLeast(t, -tiny, 0, -tiny, tiny)
}

// P12.3: of none it is infinite.
func TestLeastNone(t *testing.T) {
	wantLeast(t, inf)
	wantLeast(t, inf, []float64{}...)
	wantLeast(t, inf, inf)
	wantLeast(t, inf, inf, inf)
}

// P12.3: what is infinite, either way.
func TestLeastInfinite(t *testing.T) {
	wantLeast(t, 5, inf, 5)
	wantLeast(t, 5, 5, inf)
	wantLeast(t, -inf, -inf)
	wantLeast(t, -inf, inf, -inf, great)
	wantLeast(t, -inf, -great, -inf)
}

// P12.3: -0 is below 0, wherever it stands.
func TestLeastNought(t *testing.T) {
	wantLeast(t, 0, 0)
	wantLeast(t, less, less)
	wantLeast(t, less, 0, less)
	wantLeast(t, less, less, 0)
	wantLeast(t, less, 0, less, 0)
	wantLeast(t, less, 1, 0, less, 0, inf)
	wantLeast(t, 0, 1, 0, inf)
	wantLeast(t, -tiny, less, -tiny, 0)
}

// P12.3: one that is no number is enough, whatever stands beside it.
func TestLeastNoNumber(t *testing.T) {
	wantLeast(t, nan, nan)
	wantLeast(t, nan, nan, 1)
	wantLeast(t, nan, 1, nan)
	wantLeast(t, nan, 2, nan, 1)
	wantLeast(t, nan, -inf, nan)
	wantLeast(t, nan, nan, -inf)
	wantLeast(t, nan, inf, nan)
	wantLeast(t, nan, nan, inf, less, 0)
	wantLeast(t, nan, nan, nan)
	wantLeast(t, nan, -nan, 1)
}

// first: the least one in the tests' own way: the one at the head when all are in order.
func first(l []float64) float64 {
	if slices.ContainsFunc(l, func(x float64) bool { return x != x }) {
		return nan
	}
	s := slices.SortedFunc(slices.Values(append([]float64{inf}, l...)), func(a, b float64) int {
		switch {
		case a < b || same(a, less) && same(b, 0):
			return -1
		case same(a, b):
			return 0
		}
		return 1
	})
	return s[0]
}

// P12.3: drawn lists, long ones too: here nothing is refused.
func TestDrawnLeast(t *testing.T) {
	d := rand.New(rand.NewPCG(12, 3))
	for range 5000 {
		var l []float64
		for range d.IntN(9) {
			x := drawnFloat(d)
			if x != x && d.IntN(4) > 0 {
				x = less
			}
			l = append(l, x)
		}
		wantLeast(t, first(l), l...)
	}
	long := make([]float64, 100000)
	for i := range long {
		long[i] = drawnCommon(d)
	}
	wantLeast(t, first(long), long...)
}

// P12.3: the list stays as it is.
func TestLeastKept(t *testing.T) {
	l, kept := roomy(-9, 3.0, less, 0, -2, 5)
	swing.Least(l)
	wantKept(t, l, kept)
}
