package meter_test

import (
	"math"
	"math/rand/v2"
	"slices"
	"testing"

	"gridworks/api"
	"gridworks/meter"
)

// P14.3: the chapter's example, and other uses of its bands.
func TestBill(t *testing.T) {
	l := []api.Band{band(10, 25), band(20, 30)}
	wantBill(t, 15, l, 40)
	wantBill(t, 0, l, 0)
	wantBill(t, 1, l, 3)
	wantBill(t, 10, l, 25)
	wantBill(t, 11, l, 28)
	wantBill(t, 20, l, 55)
	wantBill(t, 21, l, 58)
	wantBill(t, 120, l, 355)
}

// P14.3: of each band what lies above the one ahead of it, each at its own price.
func TestBands(t *testing.T) {
	l := []api.Band{band(1, 10), band(3, 1000), band(4, 0), band(10, 50)}
	for use, want := range []int{0, 1, 101, 201, 201, 206, 211, 216, 221, 226, 231, 236, 241} {
		wantBill(t, use, l, want)
	}
	wantBill(t, 7, []api.Band{band(5, 30)}, 21) // above the last To as the last one
	wantBill(t, 7, []api.Band{band(1, 0)}, 0)
	wantBill(t, 7, []api.Band{band(3, 90), band(4, 10)}, 31)
}

// P14.3: all tenths together are rounded up, not those of each band.
func TestRoundedUp(t *testing.T) {
	for use, want := range []int{0, 1, 1, 1, 1, 1, 1, 1, 1, 1, 1, 2} {
		wantBill(t, use, []api.Band{band(5, 1)}, want)
	}
	wantBill(t, 2, []api.Band{band(1, 5), band(2, 5)}, 1)
	wantBill(t, 2, []api.Band{band(1, 5), band(2, 6)}, 2)
	wantBill(t, 3, []api.Band{band(1, 1), band(2, 1), band(3, 1)}, 1)
	wantBill(t, 3, []api.Band{band(1, 11), band(2, 11), band(3, 8)}, 3)
}

// P14.3: the greatest of all.
func TestGreatestBill(t *testing.T) {
	wantBill(t, api.MaxValue, []api.Band{band(api.MaxValue, api.MaxTenths)}, api.MaxValue*api.MaxTenths/10)
	wantBill(t, api.MaxValue, []api.Band{band(1, api.MaxTenths)}, api.MaxValue*api.MaxTenths/10)
	wantBill(t, api.MaxValue, []api.Band{band(api.MaxValue-1, 1), band(api.MaxValue, 7)}, 429496731)
	wantBill(t, api.MaxValue, []api.Band{band(api.MaxValue, 1)}, 429496730)
	var l []api.Band
	for i := range api.MaxBands {
		l = append(l, band(i+1, api.MaxTenths-i))
	}
	wantBill(t, 100, l, billed(100, l))
	wantBill(t, 8, l, 79998) // 8 times 100000 less 28 tenths, 799972
}

// P14.3: drawn bands, held against what each one that is used costs.
func TestDrawnBills(t *testing.T) {
	d := rand.New(rand.NewPCG(14, 6))
	for range 5000 {
		l, to := []api.Band(nil), 0
		for range 1 + d.IntN(api.MaxBands) {
			to += 1 + d.IntN(20)
			l = append(l, band(to, d.IntN(120)))
		}
		use := d.IntN(to + 30)
		wantBill(t, use, l, billed(use, l))
		for _, b := range l {
			wantBill(t, b.To, l, billed(b.To, l))
		}
	}
}

// P14.3: who uses more is billed no less.
func TestMoreIsNoLess(t *testing.T) {
	d := rand.New(rand.NewPCG(14, 7))
	for range 500 {
		l := []api.Band{band(1+d.IntN(50), d.IntN(99)), band(51+d.IntN(50), d.IntN(99)), band(101+d.IntN(50), d.IntN(99))}
		var bills []int
		for use := range 170 {
			c, e := meter.Bill(use, l)
			if e != api.OK {
				t.Fatalf("Bill(%d, %v): %d", use, l, e)
			}
			bills = append(bills, c)
		}
		if !slices.IsSorted(bills) {
			t.Fatalf("%v: %v", l, bills)
		}
	}
}

// P14.3: no band, or too many.
func TestBillSize(t *testing.T) {
	noBill(t, 5, nil, api.ErrSize)
	noBill(t, 0, []api.Band{}, api.ErrSize)
	var l []api.Band
	for i := range api.MaxBands + 1 {
		l = append(l, band(i+1, 10))
	}
	noBill(t, 5, l, api.ErrSize)
	wantBill(t, 5, l[:api.MaxBands], 5)
	noBill(t, 5, make([]api.Band, 100000), api.ErrSize)
}

// P14.3: a use, tenths or a To beyond what may be, at each place.
func TestBillRange(t *testing.T) {
	one := band(10, 10)
	for _, x := range []int{-1, api.MaxValue + 1, math.MinInt, math.MaxInt} {
		noBill(t, x, []api.Band{one}, api.ErrRange)
		noBill(t, 0, []api.Band{band(x, 10)}, api.ErrRange)
		noBill(t, 0, []api.Band{one, band(x, 10)}, api.ErrRange)
		noBill(t, 0, []api.Band{band(x, 10), one}, api.ErrRange)
		noBill(t, 0, []api.Band{band(10, x)}, api.ErrRange)
		noBill(t, 0, []api.Band{one, band(11, x)}, api.ErrRange)
		noBill(t, 0, []api.Band{band(9, x), one}, api.ErrRange)
	}
	noBill(t, 5, []api.Band{band(0, 10)}, api.ErrRange)
	noBill(t, 5, []api.Band{band(0, 10), one}, api.ErrRange)
	noBill(t, 5, []api.Band{band(10, api.MaxTenths+1)}, api.ErrRange)
	wantBill(t, 5, []api.Band{band(1, 0), band(api.MaxValue, api.MaxTenths)}, 40000)
}

// P14.3: Tos that do not rise.
func TestBillState(t *testing.T) {
	noBill(t, 5, []api.Band{band(10, 1), band(10, 1)}, api.ErrState)
	noBill(t, 5, []api.Band{band(10, 1), band(9, 1)}, api.ErrState)
	noBill(t, 0, []api.Band{band(1, 1), band(3, 1), band(3, 2)}, api.ErrState)
	noBill(t, 0, []api.Band{band(1, 1), band(3, 1), band(2, 2), band(4, 1)}, api.ErrState)
	wantBill(t, 5, []api.Band{band(9, 2), band(10, 1)}, 1)
}

// P14.3: of several that apply the one that is named first.
func TestBillWhichFirst(t *testing.T) {
	noBill(t, -1, nil, api.ErrSize)
	noBill(t, -1, make([]api.Band, api.MaxBands+1), api.ErrSize)
	noBill(t, -1, []api.Band{band(10, 1), band(9, 1)}, api.ErrRange)
	noBill(t, 5, []api.Band{band(10, 1), band(9, 1), band(11, -1)}, api.ErrRange)
	noBill(t, 5, []api.Band{band(10, 1), band(0, 1)}, api.ErrRange)
}

// P14.3: what is handed in stays as it is, its spare room too.
func TestBillMemory(t *testing.T) {
	l, kept := roomy(band(-7, -7), band(10, 25), band(20, 30))
	wantBill(t, 15, l, 40)
	wantKept(t, l, kept)
	l[1].To, kept[1].To = 10, 10
	noBill(t, 15, l, api.ErrState)
	wantKept(t, l, kept)
}
