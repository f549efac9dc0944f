package protect_test

import (
	"math"
	"math/big"
	"math/rand/v2"
	"slices"
	"testing"

	"gridworks/api"
	"gridworks/protect"
)

// P11.2: the first zone that reaches as far.
func TestZone(t *testing.T) {
	wantZone(t, 30+40i, 10i, -1i, []int{4, 5, 9}, 1)
	for r, want := range []int{0, 0, 0, 1, 1, 2, 2, 2, 2, -1, -1} {
		wantZone(t, complex(float64(10*r+1), 0), 10, 1, []int{3, 5, 9}, want)
	}
	for r, want := range []int{0, 0, 0, 1, 1, 2, 2, 2, 2, -1} {
		wantZone(t, complex(float64(10*r+10), 0), 10, 1, []int{3, 5, 9}, want)
	}
}

// P11.2: sizes are compared whichever way they point, as long as it lies ahead.
func TestZoneSizes(t *testing.T) {
	for _, v := range []complex128{50, 30 + 40i, 40 - 30i, 14 + 48i, 48 - 14i} {
		for _, i := range []complex128{5, 4 + 3i, 3 - 4i} {
			dir := v * complex(real(i), -imag(i)) // the way to where it lies
			wantZone(t, v, i, dir, []int{9, 10}, 1)
			wantZone(t, v, i, dir, []int{9}, -1)
			wantZone(t, v, i, dir, []int{10, 11}, 0)
			wantZone(t, v, i, -dir, []int{10, 11}, -1)
		}
	}
	wantZone(t, 1+1i, 1, 1, []int{1, 2}, 1) // its size is a root of 2
	wantZone(t, 7+1i, 5+5i, 1, []int{0, 1}, 1)
	wantZone(t, 8+1i, 5+5i, 1, []int{0, 1}, -1)
}

// P11.2: what lies behind, or just aside, is in no zone.
func TestZoneBehind(t *testing.T) {
	ahead := []complex128{5, 5 + 4i, 5 - 4i, 1 + 9i, 1 - 9i}
	aside := []complex128{5i, -5i, 1i, 0, -5, -1, -5 + 4i, -1 - 9i}
	for _, dir := range []complex128{1, 1i, -1, -1i, 3 + 4i, -2 + 7i} {
		for _, i := range []complex128{1, 1i, -1i, -1, 2 - 3i, -5 - 1i} {
			for _, way := range ahead {
				wantZone(t, way*dir*i, i, dir, []int{500}, 0)
				wantZone(t, way*dir*i, i, -dir, []int{500}, -1)
			}
			for _, way := range aside {
				wantZone(t, way*dir*i, i, dir, []int{500}, -1)
			}
		}
	}
}

// P11.2: no current, no voltage, no zones, a zone that reaches nowhere.
func TestZoneNone(t *testing.T) {
	zero := math.Copysign(0, -1)
	for _, i := range []complex128{0, complex(zero, 0), complex(zero, zero)} {
		wantZone(t, 0, i, 1, []int{0, 1000}, -1)
		wantZone(t, 5, i, 1, []int{1000}, -1)
		wantZone(t, complex(zero, -5), i, -1i, []int{1000}, -1)
	}
	wantZone(t, 0, 5, 1, []int{0, 1000}, -1) // nothing is not above 0
	wantZone(t, 5, 5, 1, nil, -1)
	wantZone(t, 5, 5, 1, []int{}, -1)
	wantZone(t, 5, 5, 1, []int{0}, -1)
	wantZone(t, 5, 5, 1, []int{0, 1}, 1)
	wantZone(t, 1, api.MaxPhase, 1, []int{0}, -1)
}

// P11.2: as great as may be: nothing is rounded.
func TestZoneGreat(t *testing.T) {
	const most, far = api.MaxPhase, api.MaxReach
	corner := complex(most, most)
	wantZone(t, corner, corner, far, []int{1}, 0)
	wantZone(t, corner, corner, far-far*1i, []int{1}, 0)
	wantZone(t, corner, -corner, -far, []int{1}, 0)
	wantZone(t, corner, corner, far*1i, []int{1}, -1)
	wantZone(t, corner, corner, 1+far*1i, []int{1}, 0) // just ahead
	wantZone(t, corner, corner, -1+far*1i, []int{1}, -1)
	wantZone(t, corner, complex(most, most-1), 1, []int{1, 2}, 1)
	wantZone(t, complex(most, most-1), corner, 1, []int{1, 2}, 0)
	wantZone(t, most, 32, 1, []int{996, 997, 998, 999, 1000}, -1)
	wantZone(t, most, 33, 1, []int{991, 992, 993, 994, 1000}, 2)
	wantZone(t, 32000, 32, 1, []int{0, 1, 998, 999, 1000}, 4)
	wantZone(t, 32000+1i, 32, 1, []int{0, 1, 998, 999, 1000}, -1)
	wantZone(t, 31999+1i, 32, 1, []int{0, 1, 998, 999, 1000}, 4)
	// The real part is 0, 1 and -1, although it is of great terms.
	wantZone(t, complex(most, most-1), complex(most-1, -most), 1, []int{1000}, -1)
	wantZone(t, complex(most-1, most-2), complex(most-1, -most), 1, []int{1000}, 0)
	wantZone(t, complex(most-1, most-2), complex(1-most, most), 1, []int{1000}, -1)
}

// zoned: the tests' own way, by whole numbers of any length.
func zoned(v, i, dir complex128, reach []int) int {
	n := func(x float64) *big.Int { return big.NewInt(int64(x)) }
	mul := func(l ...*big.Int) *big.Int {
		p := big.NewInt(1)
		for _, x := range l {
			p.Mul(p, x)
		}
		return p
	}
	add := func(a, b *big.Int) *big.Int { return new(big.Int).Add(a, b) }
	a, b, c, d, e, f := n(real(v)), n(imag(v)), n(real(i)), n(-imag(i)), n(real(dir)), n(-imag(dir))
	re := new(big.Int).Sub(mul(a, c), mul(b, d))
	im := add(mul(a, d), mul(b, c))
	if mul(re, e).Cmp(mul(im, f)) <= 0 {
		return -1
	}
	return slices.IndexFunc(reach, func(r int) bool {
		return add(mul(a, a), mul(b, b)).Cmp(mul(n(float64(r*r)), add(mul(c, c), mul(d, d)))) <= 0
	})
}

// P11.2: drawn voltages and currents, held against whole numbers.
func TestDrawnZones(t *testing.T) {
	d := rand.New(rand.NewPCG(11, 2))
	count := map[int]int{}
	for _, most := range []int{2, 5, 30, 1000, api.MaxPhase} {
		for range 8000 {
			far := []int{1, 2, 200}[d.IntN(3)] // how much further each zone reaches
			var reach []int
			for k := range d.IntN(api.MaxZones + 1) {
				reach = append(reach, d.IntN(far))
				if k > 0 {
					reach[k] += reach[k-1] + 1
				}
			}
			v, i, dir := drawnPhase(d, most), drawnPhase(d, most), drawnPhase(d, min(most, api.MaxReach))
			if dir == 0 {
				dir = 1
			}
			want := zoned(v, i, dir, reach)
			count[want]++
			wantZone(t, v, i, dir, reach, want)
		}
	}
	for k := -1; k < api.MaxZones; k++ {
		if count[k] < 20 {
			t.Error("too few:", count)
		}
	}
}

// P11.2: too many zones, whatever else is wrong.
func TestZoneSize(t *testing.T) {
	for _, reach := range [][]int{{1, 2, 3, 4, 5, 6}, {6, 5, 4, 3, 2, 1}, make([]int, 1000)} {
		noZone(t, 5, 5, 1, reach, api.ErrSize)
		noZone(t, 0.5, 5, 0, reach, api.ErrSize)
	}
	wantZone(t, 5, 1, 1, []int{1, 2, 3, 4, 5}, 4)
}

// P11.2: parts that are none, of whichever number.
func TestZoneParts(t *testing.T) {
	for _, x := range noParts(api.MaxPhase) {
		for _, c := range []complex128{complex(x, 0), complex(0, x), complex(7, x), complex(x, x)} {
			noZone(t, c, 5, 1, []int{1000}, api.ErrRange)
			noZone(t, 5, c, 1, []int{1000}, api.ErrRange)
			noZone(t, 5, 0, c, nil, api.ErrRange)
		}
	}
	for _, x := range noParts(api.MaxReach) {
		for _, c := range []complex128{complex(x, 0), complex(0, x), complex(7, x), complex(x, x)} {
			noZone(t, 5, 5, c, []int{1000}, api.ErrRange)
		}
	}
	for _, dir := range []complex128{0, complex(math.Copysign(0, -1), 0)} {
		noZone(t, 5, 5, dir, []int{1000}, api.ErrRange)
		noZone(t, 0, 0, dir, nil, api.ErrRange)
	}
	for _, dir := range []complex128{api.MaxReach, api.MaxReach - api.MaxReach*1i, api.MaxReach + api.MaxReach*1i} {
		wantZone(t, 5, 5, dir, []int{1}, 0)
		wantZone(t, 5, 5, -dir, []int{1}, -1)
	}
}

// P11.2: zones that are not rising, or out of range; also where there is no current, or it lies behind.
func TestZoneReach(t *testing.T) {
	for _, reach := range [][]int{
		{-1}, {1001}, {math.MinInt}, {math.MaxInt}, {1 << 32}, {-1, 5}, {5, 1001}, {5, 4}, {5, 5}, {0, 0}, {1, 2, 2}, {1, 3, 2}, {3, 1, 2}, {1, 2, 3, 4, 3}, {1, 2, 3, 4, 4}, {1000, 1000}, {5, -1}, {0, 1, math.MinInt}, {0, math.MaxInt}, {0, math.MaxInt, 1},
	} {
		for _, i := range []complex128{5, 0, -5} {
			noZone(t, 5, i, 1, reach, api.ErrRange)
			noZone(t, 5000, i, 1, reach, api.ErrRange)
		}
	}
	wantZone(t, 5000, 5, 1, []int{0, 1, 999, 1000}, 3)
}

// P11.2: what is handed in stays as it is.
func TestZoneKeeps(t *testing.T) {
	reach, kept := roomy(7, 1, 3, 9)
	for range 2 {
		if k, e := protect.Zone(20, 10, 1, reach); k != 1 || e != api.OK {
			t.Error(k, e)
		}
		wantKept(t, reach, kept)
	}
}
