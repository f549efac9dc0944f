package protect_test

import (
	"math"
	"math/big"
	"math/rand/v2"
	"slices"
	"sync"
	"testing"

	"gridworks/api"
	"gridworks/protect"
)

// P11.1: what flows in and flows out again is no difference, what is left is one.
func TestDiffers(t *testing.T) {
	wantDiffers(t, []complex128{100, -100}, 0, 0, false)
	wantDiffers(t, []complex128{100, -99}, 0, 0, true)
	wantDiffers(t, []complex128{100 + 50i, -60 - 20i, -40 - 30i}, 0, 0, false)
	wantDiffers(t, []complex128{100 + 50i, -60 - 20i, -40 + 30i}, 59, 0, true)
	wantDiffers(t, []complex128{100 + 50i, -60 - 20i, -40 + 30i}, 60, 0, false)
	wantDiffers(t, []complex128{5, 12i}, 12, 100, true)
	wantDiffers(t, []complex128{5, 12i}, 13, 100, false)
}

// P11.1: the size counts, whichever way it points.
func TestDiffersWay(t *testing.T) {
	for _, c := range []complex128{5, -5, 5i, -5i, 3 + 4i, 3 - 4i, -3 + 4i, -4 - 3i} {
		wantDiffers(t, []complex128{c}, 4, 0, true)
		wantDiffers(t, []complex128{c}, 5, 0, false)
		wantDiffers(t, []complex128{c}, 4, 99, true)
		wantDiffers(t, []complex128{c}, 4, 100, false)
	}
}

// P11.1: what is just slack, or just so many hundredths, is not above it.
func TestDiffersEdges(t *testing.T) {
	wantDiffers(t, []complex128{100, -50}, 0, 49, true)
	wantDiffers(t, []complex128{100, -50}, 0, 50, false)
	wantDiffers(t, []complex128{-100, 51}, 0, 49, false)
	wantDiffers(t, []complex128{-100, 51}, 0, 48, true)
	wantDiffers(t, []complex128{-100, 51}, 49, 48, false)
	wantDiffers(t, []complex128{-100, 51}, 48, 48, true)
	wantDiffers(t, []complex128{30 + 40i, -30 - 40i, 3 - 4i}, 4, 9, true)
	wantDiffers(t, []complex128{30 + 40i, -30 - 40i, 3 - 4i}, 4, 10, false)
	wantDiffers(t, []complex128{30 + 40i, -30 - 40i, 3 - 4i}, 5, 9, false)
	wantDiffers(t, []complex128{1 + 1i}, 1, 99, true) // its size is a root of 2
	wantDiffers(t, []complex128{1 + 1i}, 2, 99, false)
}

// P11.1: the greatest one is the one of the greatest size, wherever it stands; not the greatest part, nor all sizes together.
func TestDiffersGreatest(t *testing.T) {
	for _, l := range [][]complex128{{60 + 80i, -60 - 30i}, {-60 - 30i, 60 + 80i}, {0, -60 - 30i, 60 + 80i, 0}} {
		wantDiffers(t, l, 0, 49, true)
		wantDiffers(t, l, 0, 50, false)
	}
	wantDiffers(t, []complex128{90, 60 + 80i, -150 - 30i}, 0, 32, true) // 50 of about 153
	wantDiffers(t, []complex128{90, 60 + 80i, -150 - 30i}, 0, 33, false)
}

// P11.1: nothing flows: nothing is above 0.
func TestDiffersNothing(t *testing.T) {
	for _, l := range [][]complex128{nil, {}, {0}, {0, 0, 0}, {complex(math.Copysign(0, -1), 0)}, make([]complex128, api.MaxCurrents)} {
		wantDiffers(t, l, 0, 0, false)
		wantDiffers(t, l, 0, 100, false)
		wantDiffers(t, l, api.MaxPhase, 100, false)
	}
}

// P11.1: as many currents as may be, each as great as may be: nothing is rounded.
func TestDiffersGreat(t *testing.T) {
	const most = api.MaxPhase
	full := slices.Repeat([]complex128{complex(most, most)}, api.MaxCurrents)
	wantDiffers(t, full, most, 100, true)
	wantDiffers(t, slices.Repeat([]complex128{complex(-most, -most)}, api.MaxCurrents), most, 100, true)
	wantDiffers(t, []complex128{most}, most, 0, false)
	wantDiffers(t, []complex128{most}, most-1, 99, true)
	wantDiffers(t, []complex128{most, 1i}, most, 99, true) // above it by a 65536th
	wantDiffers(t, []complex128{most, 1i}, most, 100, true)
	wantDiffers(t, []complex128{complex(most, 1), -1}, most-1, 100, false)
	wantDiffers(t, []complex128{complex(most, 1), -1i}, most-1, 100, false)
	wantDiffers(t, []complex128{complex(most-1, 1), 1}, most-1, 100, true)
}

// above: the tests' own way, by whole numbers of any length.
func above(l []complex128, slack, percent int) bool {
	whole := func(x float64) *big.Int { n, _ := big.NewFloat(x).Int(nil); return n }
	squares := func(a, b *big.Int) *big.Int {
		return new(big.Int).Add(new(big.Int).Mul(a, a), new(big.Int).Mul(b, b))
	}
	re, im, greatest := new(big.Int), new(big.Int), new(big.Int)
	for _, c := range l {
		a, b := whole(real(c)), whole(imag(c))
		re.Add(re, a)
		im.Add(im, b)
		if s := squares(a, b); s.Cmp(greatest) > 0 {
			greatest = s
		}
	}
	size := squares(re, im)
	part := new(big.Int).Mul(greatest, big.NewInt(int64(percent*percent)))
	return size.Cmp(big.NewInt(int64(slack*slack))) > 0 && new(big.Int).Mul(size, big.NewInt(10000)).Cmp(part) > 0
}

// P11.1: drawn currents; small ones often stand at an edge.
func TestDrawnDiffers(t *testing.T) {
	d := rand.New(rand.NewPCG(11, 1))
	count := [2]int{}
	for _, most := range []int{3, 10, 100, api.MaxPhase} {
		for range 10000 {
			var l []complex128
			for range d.IntN(api.MaxCurrents + 1) {
				l = append(l, drawnPhase(d, most))
			}
			if d.IntN(2) == 0 && len(l) > 0 && len(l) < api.MaxCurrents/2 { // much of it flows out again
				for _, c := range l[1:] {
					l = append(l, -c)
				}
			}
			slack, percent := d.IntN(most+1), d.IntN(101)
			if d.IntN(3) == 0 {
				slack = 0
			}
			want := above(l, slack, percent)
			wantDiffers(t, l, slack, percent, want)
			if want {
				count[1]++
			} else {
				count[0]++
			}
		}
	}
	if count[0] < 5000 || count[1] < 5000 {
		t.Error("too few:", count)
	}
}

// P11.1: too many currents, whatever else is wrong.
func TestDiffersSize(t *testing.T) {
	for _, size := range []int{api.MaxCurrents + 1, api.MaxCurrents + 2, 1000} {
		noDiffers(t, make([]complex128, size), 0, 0, api.ErrSize)
		noDiffers(t, slices.Repeat([]complex128{5}, size), 0, 0, api.ErrSize)
		noDiffers(t, slices.Repeat([]complex128{0.5}, size), -1, 101, api.ErrSize)
	}
}

// P11.1: a part that is none, slack or percent out of range.
func TestDiffersRange(t *testing.T) {
	for _, x := range noParts(api.MaxPhase) {
		for _, c := range []complex128{complex(x, 0), complex(0, x), complex(7, x), complex(x, x)} {
			noDiffers(t, []complex128{c}, 0, 0, api.ErrRange)
			noDiffers(t, []complex128{c, 1, 2}, 5, 5, api.ErrRange)
			noDiffers(t, append(make([]complex128, api.MaxCurrents-1), c), api.MaxPhase, 100, api.ErrRange)
		}
	}
	for _, l := range [][]complex128{nil, {5}, {5, -5}} {
		for _, slack := range []int{-1, api.MaxPhase + 1, math.MinInt, math.MaxInt, 1 << 32, 1 << 62} {
			noDiffers(t, l, slack, 50, api.ErrRange)
		}
		for _, percent := range []int{-1, 101, math.MinInt, math.MaxInt, 1 << 32} {
			noDiffers(t, l, 0, percent, api.ErrRange)
		}
	}
	wantDiffers(t, []complex128{complex(api.MaxPhase, -api.MaxPhase)}, api.MaxPhase, 99, true)
	wantDiffers(t, []complex128{complex(-api.MaxPhase, api.MaxPhase)}, api.MaxPhase, 100, false)
}

// P11.1: what is handed in stays as it is; and it matters not who else asks.
func TestDiffersKeeps(t *testing.T) {
	l, kept := roomy(7i, 3+4i, -3, 5)
	var all sync.WaitGroup
	told := make([]bool, 20)
	for i := range told {
		all.Go(func() { told[i], _ = protect.Differs(l, 6+i%2, 50) })
	}
	all.Wait()
	for i, ok := range told {
		if ok != (i%2 == 0) { // the size is a root of 41
			t.Error(i, ok)
		}
	}
	wantKept(t, l, kept)
}
