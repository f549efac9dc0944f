package swing_test

import (
	"math"
	"math/rand/v2"
	"testing"

	"gridworks/swing"
)

// P12.1: the chapter's, and others in which nothing is rounded.
func TestStep(t *testing.T) {
	wantStep(t, 0, 10, 20, 1, 5, 0.5, -1)
	wantStep(t, -1, 10, 20, 1, 5, 0.5, -1.9)
	wantStep(t, 0, 20, 10, 1, 5, 0.5, 1)
	wantStep(t, 1, 20, 10, 2, 4, 0.5, 2)
	wantStep(t, 3, 7, 7, 0, 4, 2, 3)
	wantStep(t, 3, 7, 7, 1, 4, 2, 1.5)
	wantStep(t, -3, 7, 7, 1, 4, 2, -1.5)
	wantStep(t, 3, 7, 7, -1, 4, 2, 4.5)
	wantStep(t, 3, 8, 4, 0, -4, 2, 1)
	wantStep(t, 3, 8, 4, 0, 4, -2, 1)
	wantStep(t, 3, 8, 4, 0, 4, 0, 3)
	wantStep(t, 2, -1, -5, 1, 8, 4, 3)
}

// P12.1: each operation is rounded by itself, in the order that is told: what is fused, or done in another order, comes to another number here.
func TestStepRounded(t *testing.T) {
	wantStep(t, 5, 4.5, 1.4, 1.9, 6.6, 4.5, 0.6363636363636358)       // fused, damp times f: ..67
	wantStep(t, 5.5, 4.1, 7.4, 7.8, 1.3, 2.4, -79.7923076923077)      // made less (drawn and damp times f): ..67
	wantStep(t, 4.2, 8.8, 3.9, 6.3, 4.1, 3.6, -14.73073170731708)     // damp times f ahead of drawn: ..076
	wantStep(t, 1.8, 5.6, 2.9, 2.1, 2.8, 3.3, 0.5271428571428567)     // dt over mass first: ..65
	wantStep(t, 0.2, 2.5, 7.8, 3.2, 1.1, 5, -26.799999999999994)      // over mass ahead of times dt: ..97
	wantStep(t, 9.4, 1.8, 9.5, 6.7, 6.3, 4.6, -42.20761904761905)     // times 1 over mass: ..04
	wantStep(t, 9.3, 0.8, 6.9, 2.8, 5.4, 8.5, -41.29074074074073)     // that, fused with f: ..74
	wantStep(t, 5.2, 7.5, 8.7, 7.8, 0.4, 9.8, -1017.9200000000002)    // times dt over mass, fused with f: ..01
	wantStep(t, 4.7, 7.4, 2.1, 0.2, 5.6, 4.1, 7.892142857142858)      // all over mass: ..57
	wantStep(t, 0, 1, 0, 0, 3, 1, 1.0/3)                              // no shorter floats
	wantStep(t, 0, 0x1p53, -1, 0, 1, 1, 0x1p53)                       // halfway: to the even one, below
	wantStep(t, 0, 0x1p53+2, -1, 0, 1, 1, 0x1p53+4)                   // and above
	wantStep(t, 1, 0x1p-53, 0, 0, 1, 1, 1)                            // f and that, halfway
	wantStep(t, 1+0x1p-52, 0x1p-53, 0, 0, 1, 1, 1+0x1p-51)            // ..
	wantStep(t, 1, math.Nextafter(0x1p-53, 1), 0, 0, 1, 1, 1+0x1p-52) // just above the half
}

// P12.1: what is too great on the way is infinite, though it would come back; what is too small is lost there.
func TestStepFar(t *testing.T) {
	wantStep(t, 0, great, -great, 0, great, 0.5, inf)
	wantStep(t, 0, -great, great, 0, great, 0.5, -inf)
	wantStep(t, 0, great, 0, 0, great, 2, inf)
	wantStep(t, 0, great, 0, 0, -great, 2, -inf)
	wantStep(t, 0, great, 0, 0, great, 0.5, 0.5)
	wantStep(t, great, 0, 0, 2, great, 1, -inf)
	wantStep(t, great, great, 0, 0, 1, 1, inf)
	wantStep(t, great, 0x1p969, 0, 0, 1, 1, great)
	wantStep(t, great, 0x1p970, 0, 0, 1, 1, inf) // halfway to what is too great
	wantStep(t, 0, 1, 0, 0, tiny, 1, inf)
	wantStep(t, 0, tiny, 0, 0, tiny, 1, 1)
	wantStep(t, 0, tiny, 0, 0, 1, 1, tiny)
	wantStep(t, 0, tiny, 0, 0, tiny, 0.5, 0) // halfway to 0: the even one
	wantStep(t, 0, tiny, 0, 0, tiny, 0.75, 1)
	wantStep(t, 0, 3*tiny, 0, 0, tiny, 0.5, 2)
	wantStep(t, 0, tiny, 0, 0, 2, 1, 0)
	wantStep(t, small, 0, small/2, 0, 1, 1, small/2) // nothing is flushed to 0
	wantStep(t, 0x1p-540, 0, 0, 0x1p-540, tiny, 1, 0x1p-540)
}

// P12.1: what is infinite, and what is no number, go on.
func TestStepNoNumber(t *testing.T) {
	wantStep(t, 0, inf, 0, 0, 1, 1, inf)
	wantStep(t, 0, 0, inf, 0, 1, 1, -inf)
	wantStep(t, 0, inf, inf, 0, 1, 1, nan)
	wantStep(t, 0, inf, -inf, 0, 1, 1, inf)
	wantStep(t, 0, inf, 0, 0, 1, 0, nan)
	wantStep(t, 0, inf, 0, 0, inf, 1, nan)
	wantStep(t, 0, inf, 0, inf, 1, 1, nan) // infinite times 0
	wantStep(t, 1, inf, 0, inf, 1, 1, nan)
	wantStep(t, -1, inf, 0, inf, 1, 1, inf)
	wantStep(t, inf, 0, 0, 0, 1, 1, nan)
	wantStep(t, inf, 0, 0, 1, 1, 1, nan)
	wantStep(t, inf, 0, 0, -1, 1, 1, inf)
	wantStep(t, -inf, 0, 0, -1, 1, 1, -inf)
	wantStep(t, 5, 1, 0, 0, inf, 1, 5)
	wantStep(t, 5, 1, 0, 0, 1, inf, inf)
	wantStep(t, 5, 0, 0, 0, 1, inf, nan)
	wantStep(t, 5, 1, 0, 0, 0, 1, inf)
	wantStep(t, 5, 1, 0, 0, less, 1, -inf)
	wantStep(t, 5, 0, 1, 0, 0, 1, -inf)
	wantStep(t, 5, 1, 1, 0, 0, 1, nan)
	wantStep(t, 5, 1, 0, 0, 0, 0, nan)
	for i := range 6 {
		l := [6]float64{1, 2, 3, 4, 5, 6}
		l[i] = nan
		wantStep(t, l[0], l[1], l[2], l[3], l[4], l[5], nan)
	}
}

// P12.1: of two noughts the sum is -0 if both are; of two that are alike, the difference is 0.
func TestStepNought(t *testing.T) {
	wantStep(t, 0, 0, 0, 0, 1, 1, 0)
	wantStep(t, less, 0, 0, 0, 1, 1, 0)
	wantStep(t, less, 0, 0, 0, 1, -1, less)
	wantStep(t, less, 0, 0, 0, -1, 1, less)
	wantStep(t, less, 0, 0, 0, -1, -1, 0)
	wantStep(t, 0, 0, 0, 0, 1, -1, 0)
	wantStep(t, less, less, 0, 0, 1, 1, 0) // damp times f is -0 as well, and taken off
	wantStep(t, less, less, 0, less, 1, 1, less)
	wantStep(t, less, less, less, less, 1, 1, 0)
	wantStep(t, less, 7, 7, less, 1, 1, 0)
	wantStep(t, less, 7, 7, less, 1, less, less)
	wantStep(t, 1, 0, 1, 0, 1, 1, 0)
	wantStep(t, -1, 1, 0, 0, 1, 1, 0)
	wantStep(t, less, 0, tiny, 0, 4, 1, less) // too small, and below 0
	wantStep(t, less, 1, 0, 0, -inf, 1, less)
	wantStep(t, less, 1, 0, 0, inf, 1, 0)
}

// P12.1: every edge with every edge, by exact fractions.
func TestStepEdges(t *testing.T) {
	for _, a := range edges() {
		for _, b := range edges() {
			for _, c := range []float64{0, less, 1, -0.3, small, great, inf} {
				wantStep(t, a, b, c, 1, 3, 0.1, later(a, b, c, 1, 3, 0.1))
				wantStep(t, c, 1, 2, 0.1, a, b, later(c, 1, 2, 0.1, a, b))
				wantStep(t, a, c, 1, b, 3, 0.1, later(a, c, 1, b, 3, 0.1))
			}
		}
	}
}

// P12.1: drawn numbers, by exact fractions.
func TestDrawnStep(t *testing.T) {
	d := rand.New(rand.NewPCG(12, 1))
	for _, draw := range []func(*rand.Rand) float64{drawnCommon, drawnFloat} {
		for range 20000 {
			f, made, drawn, damp, mass, dt := draw(d), draw(d), draw(d), draw(d), draw(d), draw(d)
			wantStep(t, f, made, drawn, damp, mass, dt, later(f, made, drawn, damp, mass, dt))
		}
	}
}

// P12.1: where F is 0 and what is made is drawn, F stays 0.
func TestStepRests(t *testing.T) {
	d := rand.New(rand.NewPCG(12, 2))
	for range 5000 {
		x, damp, mass, dt := drawnFloat(d), drawnFloat(d), drawnFloat(d), drawnFloat(d)
		if !finite(x) || !finite(damp) || !finite(mass) || !finite(dt) || mass == 0 {
			continue
		}
		if f := swing.Step(0, x, x, damp, mass, dt); !same(f, 0) {
			t.Errorf("Step(0, %v, %v, %v, %v, %v): %v", x, x, damp, mass, dt, f)
		}
	}
}
