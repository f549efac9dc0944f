package meter_test

import (
	"math"
	"math/rand/v2"
	"slices"
	"strconv"
	"testing"

	"gridworks/api"
	"gridworks/exact"
	"gridworks/meter"
)

// P14.4: cents are shared as chapter 1 shares.
func TestSettle(t *testing.T) {
	wantSettle(t, 100, []int{1, 1, 1}, []int{34, 33, 33})
	wantSettle(t, -100, []int{1, 1, 1}, []int{-33, -33, -34})
	wantSettle(t, 100, []int{50}, []int{100})
	wantSettle(t, 0, []int{3, 0, 7}, []int{0, 0, 0})
	wantSettle(t, 7, []int{0, 5, 0}, []int{0, 7, 0})
	wantSettle(t, 10, []int{5, 3, 3}, []int{4, 3, 3}) // 50/11 lose 6, 30/11 lose 8: one each to the two others
	wantSettle(t, 1, []int{1, 2, 2}, []int{0, 1, 0})
	wantSettle(t, -1, []int{1, 2, 2}, []int{0, 0, -1})
}

// P14.4: the greatest of all.
func TestGreatestSettle(t *testing.T) {
	wantSettle(t, api.MaxTotal, []int{api.MaxValue}, []int{api.MaxTotal})
	wantSettle(t, -api.MaxTotal, []int{api.MaxValue}, []int{-api.MaxTotal})
	wantSettle(t, api.MaxTotal, []int{api.MaxValue, api.MaxValue, api.MaxValue}, []int{333333333333334, 333333333333333, 333333333333333})
	wantSettle(t, api.MaxTotal, []int{api.MaxValue, 1}, []int{999999999767169, 232831})
	most := slices.Repeat([]int{api.MaxValue}, api.MaxParts)
	wantSettle(t, api.MaxTotal, most, slices.Repeat([]int{api.MaxTotal / api.MaxParts}, api.MaxParts))
}

// drawnUses: some of which are 0, not all.
func drawnUses(d *rand.Rand, most int) []int {
	l := make([]int, 1+d.IntN(api.MaxParts))
	for i := range l {
		l[i] = d.IntN(most+1) * d.IntN(2)
	}
	l[d.IntN(len(l))] = 1 + d.IntN(most)
	return l
}

// P14.4: drawn ones, held against numbers of any size, and against chapter 1; what is settled adds up to the last cent.
func TestDrawnSettle(t *testing.T) {
	d := rand.New(rand.NewPCG(14, 8))
	for i := range 3000 {
		total, most := d.IntN(2001)-1000, 20
		if i%2 == 1 {
			total, most = d.IntN(2*api.MaxTotal+1)-api.MaxTotal, api.MaxValue
		}
		uses := drawnUses(d, most)
		want := settled(total, uses)
		wantSettle(t, total, uses, want)
		texts := make([]string, len(uses))
		for k, x := range uses {
			texts[k] = strconv.Itoa(x)
		}
		if l, e := exact.Share(total, texts); !slices.Equal(l, want) || e != api.OK || sum(l) != total {
			t.Errorf("Share(%d, %v): %v, %d; %v is wanted", total, texts, l, e, want)
		}
	}
}

// P14.4: too many uses.
func TestSettleSize(t *testing.T) {
	many := slices.Repeat([]int{2}, api.MaxParts+1)
	noSettle(t, 100, many, api.ErrSize)
	noSettle(t, 100, make([]int, 100000), api.ErrSize)
	wantSettle(t, 100, many[:api.MaxParts], many[:api.MaxParts])
}

// P14.4: a total or a use beyond what may be, at each place.
func TestSettleRange(t *testing.T) {
	for _, x := range []int{api.MaxTotal + 1, -api.MaxTotal - 1, math.MinInt, math.MaxInt} {
		noSettle(t, x, []int{1, 2}, api.ErrRange)
	}
	for _, x := range []int{-1, api.MaxValue + 1, math.MinInt, math.MaxInt} {
		noSettle(t, 100, []int{x}, api.ErrRange)
		noSettle(t, 100, []int{x, 2, 3}, api.ErrRange)
		noSettle(t, 100, []int{2, 3, x}, api.ErrRange)
	}
	noSettle(t, 100, []int{1, -1}, api.ErrRange)
}

// P14.4: all together are 0.
func TestSettleZero(t *testing.T) {
	noSettle(t, 100, nil, api.ErrZero)
	noSettle(t, 100, []int{}, api.ErrZero)
	noSettle(t, 0, nil, api.ErrZero)
	noSettle(t, 0, []int{0}, api.ErrZero)
	noSettle(t, -5, make([]int, api.MaxParts), api.ErrZero)
}

// P14.4: of several that apply the one that is named first.
func TestSettleWhichFirst(t *testing.T) {
	many := slices.Repeat([]int{-1}, api.MaxParts+1)
	noSettle(t, api.MaxTotal+1, many, api.ErrSize)
	noSettle(t, 0, make([]int, api.MaxParts+1), api.ErrSize)
	noSettle(t, api.MaxTotal+1, nil, api.ErrRange)
	noSettle(t, -api.MaxTotal-1, []int{0, 0}, api.ErrRange)
}

// P14.4: what is answered is new memory, and what is handed in stays as it is, its spare room too.
func TestSettleMemory(t *testing.T) {
	uses, kept := roomy(-7, 1, 1, 1)
	a, _ := meter.Settle(100, uses)
	b, _ := meter.Settle(100, uses)
	fill(a, -9)
	wantKept(t, uses, kept)
	if !slices.Equal(b, []int{34, 33, 33}) {
		t.Error("two answers share memory:", b)
	}
}
