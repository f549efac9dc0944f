package water_test

import (
	"math/rand/v2"
	"slices"
	"sync"
	"testing"

	"gridworks/api"
	"gridworks/water"
)

// P13.4: the chapter's example, and what becomes of it at other prices.
func TestBest(t *testing.T) {
	l := []api.Lake{example()}
	wantBest(t, l, each(0, 4), []int{5, 1}, []int{0}, each(2, 2), 12)
	wantBest(t, l, each(0, 4), []int{5, 1}, []int{2}, each(2, 0), 20)
	wantBest(t, l, each(0, 4), []int{1, 5}, []int{0}, each(2, 2), 12)
	wantBest(t, l, each(0, 0), []int{1, 5}, []int{0}, each(1, 2), 11)
	wantBest(t, l, each(0, 0), []int{1, 5}, []int{1}, each(0, 2), 11)
	wantBest(t, l, each(0, 0), []int{5, 1}, []int{0}, each(2, 1), 11)
}

// P13.4: each lake's release is worth its own Worth times its hour's price.
func TestWorth(t *testing.T) {
	l := []api.Lake{{Most: 9, Start: 4, Turbine: 2, Worth: 3}, {Most: 9, Start: 4, Turbine: 1, Worth: 7}}
	wantBest(t, l, still(2, 2), []int{2, 5}, []int{0, 0}, always(2, 2, 1), 2*(6+7)+5*(6+7))
	wantBest(t, l, still(2, 2), []int{2, 5}, []int{7, 0}, rows([]int{0, 1}, []int{2, 1}), 2*7+5*(6+7)+2*7)
	wantBest(t, l, still(2, 2), []int{2, 5}, []int{16, 0}, always(2, 0, 1), 2*7+5*7+4*16)
	wantBest(t, l, still(2, 2), []int{2, 5}, []int{7, 20}, rows([]int{2, 0}, []int{2, 1}), 2*6+5*(6+7)+5*20) // what is released above is in the lower one at last
	l[0].Worth = 0
	wantBest(t, l, still(2, 2), []int{2, 5}, []int{0, 0}, always(2, 0, 1), 2*7+5*7)
}

// P13.4: what is released above is worth something below, from the next hour on.
func TestTwice(t *testing.T) {
	l := []api.Lake{{Most: 9, Start: 2, Turbine: 2}, {Most: 9, Turbine: 4, Worth: 5}}
	wantBest(t, l, still(3, 2), []int{1, 1, 1}, []int{0, 0}, rows([]int{0, 0}, []int{2, 0}, []int{0, 2}), 10)
	wantBest(t, l, still(3, 2), []int{1, 2, 1}, []int{0, 0}, rows([]int{2, 0}, []int{0, 2}, []int{0, 0}), 20)
	wantBest(t, l, still(2, 2), []int{9, 9}, []int{0, 1}, rows([]int{2, 0}, []int{0, 2}), 90)
	wantBest(t, l, still(1, 2), []int{9}, []int{0, 9}, rows([]int{0, 0}), 0) // it would come too late
	wantBest(t, l, still(2, 2), []int{0, 0}, []int{3, 4}, rows([]int{2, 0}, []int{0, 0}), 8)
	wantBest(t, l, still(2, 2), []int{0, 0}, []int{4, 4}, still(2, 2), 8)
}

// P13.4: what is in a lake at last counts, what is on its way or gone then does not.
func TestAtLast(t *testing.T) {
	l := []api.Lake{{Most: 3, Start: 3, Turbine: 2, Worth: 1}, {Most: 3, Start: 3, Turbine: 2, Worth: 1}}
	wantBest(t, l, rows([]int{2, 0}), []int{3}, []int{4, 4}, rows([]int{2, 0}), 6+12+12)
	wantBest(t, l, rows([]int{2, 0}), []int{4}, []int{4, 4}, rows([]int{2, 0}), 8+12+12)
	wantBest(t, l, rows([]int{2, 0}), []int{5}, []int{4, 4}, rows([]int{2, 2}), 10+10+12+4)
	wantBest(t, l, rows([]int{0, 0}), []int{0}, []int{4, 1000}, rows([]int{0, 0}), 12+3000)
	wantBest(t, l, rows([]int{10, 0}), []int{0}, []int{0, 1000}, rows([]int{0, 0}), 3000)
}

// P13.4: what would spill anyhow is released, if that is worth something; spilling alone is worth nothing.
func TestRatherThanSpill(t *testing.T) {
	l := []api.Lake{{Most: 5, Start: 5, Turbine: 2, Worth: 1}}
	wantBest(t, l, each(0, 4), []int{1, 1}, []int{9}, each(2, 2), 2+2+45)
	wantBest(t, l, each(0, 3), []int{1, 1}, []int{9}, each(1, 2), 1+2+45)
	wantBest(t, l, each(0, 3), []int{0, 0}, []int{9}, each(0, 0), 45)
	wantBest(t, l, each(0, 3), []int{2, 1}, []int{9}, each(2, 1), 4+1+45)
}

// P13.4: of several releases the first one: hour by hour, lake by lake, less is ahead.
func TestFirst(t *testing.T) {
	one := []api.Lake{{Most: 9, Start: 3, Turbine: 2, Worth: 1}}
	wantBest(t, one, still(3, 1), []int{1, 1, 1}, []int{0}, each(0, 1, 2), 3)
	wantBest(t, one, still(3, 1), []int{1, 1, 1}, []int{1}, each(0, 0, 0), 3)
	wantBest(t, one, still(3, 1), []int{2, 1, 2}, []int{0}, each(1, 0, 2), 6)
	wantBest(t, one, still(3, 1), []int{0, 0, 0}, []int{0}, each(0, 0, 0), 0)
	two := []api.Lake{{Most: 9, Start: 3, Turbine: 2, Worth: 2}, {Most: 9, Start: 3, Turbine: 2, Worth: 2}}
	wantBest(t, two, still(2, 2), []int{1, 1}, []int{0, 0}, rows([]int{1, 2}, []int{2, 2}), 14) // what comes late is of use: above 1, below 2 first
	wantBest(t, two, still(1, 2), []int{1}, []int{2, 2}, still(1, 2), 12)
}

// P13.4: no hours, or no lakes.
func TestBestOfLittle(t *testing.T) {
	wantBest(t, nil, nil, nil, nil, nil, 0)
	wantBest(t, []api.Lake{}, [][]int{}, []int{}, []int{}, nil, 0)
	wantBest(t, nil, still(3, 0), []int{1, 2, 3}, nil, still(3, 0), 0)
	wantBest(t, pair(), nil, nil, []int{5, 7}, nil, 4*5+2*7) // it stays as it is
	wantBest(t, []api.Lake{{}}, each(0, 3), []int{9, 9}, []int{9}, each(0, 0), 0)
}

// P13.4: the greatest of all.
func TestBestOfMost(t *testing.T) {
	l, inflow := greatest(), always(8, 10, 10)
	price, end := slices.Repeat([]int{api.MaxWorths}, 8), slices.Repeat([]int{api.MaxWorths}, 2)
	wantBest(t, l, inflow, price, end, always(8, 4, 4), 8*2*4*1000000+2*20*1000)
	clear(price)
	wantBest(t, l, inflow, price, end, still(8, 2), 2*20*1000)
	price[7] = api.MaxWorths
	wantBest(t, l, still(8, 2), price, end, append(still(7, 2), []int{4, 4}), 8*1000000+2*16*1000)
}

// P13.4: drawn lakes, held against all releases there are.
func TestDrawnBest(t *testing.T) {
	d := rand.New(rand.NewPCG(13, 5))
	for range 3000 {
		l := drawnLakes(d, d.IntN(api.MaxLakes+1), 3+d.IntN(5))
		n := d.IntN(5/max(len(l), 1) + 1)
		inflow := drawnRows(d, n, len(l), d.IntN(4))
		price, end := drawnNumbers(d, n, 3), drawnNumbers(d, len(l), 3)
		want, worth := foremost(l, inflow, price, end)
		wantBest(t, l, inflow, price, end, want, worth)
	}
}

// P13.4: as many drawn lakes and hours as may be, held against what is found hour by hour from the beginning on.
func TestDrawnLong(t *testing.T) {
	d := rand.New(rand.NewPCG(13, 6))
	for i := range 60 {
		l := drawnLakes(d, api.MaxLakes, 4+d.IntN(7))
		n := api.MaxHours - i%3
		inflow := drawnRows(d, n, len(l), d.IntN(4))
		price, end := drawnNumbers(d, n, 1+i%5), drawnNumbers(d, len(l), 4)
		want, worth := forward(l, inflow, price, end)
		wantBest(t, l, inflow, price, end, want, worth)
	}
}

// P13.4: no drawn releases are worth more than the best ones, and none of their worth are ahead of them.
func TestNoneWorthMore(t *testing.T) {
	d := rand.New(rand.NewPCG(13, 7))
	right := 0
	for range 100 {
		l := drawnLakes(d, 1+d.IntN(api.MaxLakes), 3+d.IntN(api.MaxWater-2))
		n := 1 + d.IntN(api.MaxHours)
		inflow := drawnRows(d, n, len(l), d.IntN(5))
		price, end := drawnNumbers(d, n, 5), drawnNumbers(d, len(l), 5)
		best, most, e := water.Best(l, inflow, price, end)
		for range 200 {
			r := drawnRows(d, n, len(l), d.IntN(4))
			w, f := value(l, inflow, price, end, r)
			if f != api.OK {
				continue
			}
			right++
			if e != api.OK || w > most || w == most && slices.CompareFunc(r, best, slices.Compare) < 0 {
				t.Fatalf("Best(%+v, %v, %v, %v): %v, %d, %d; but %v is worth %d", l, inflow, price, end, best, most, e, r, w)
			}
		}
	}
	if right < 1000 {
		t.Error("too few releases are right:", right)
	}
}

// P13.4: what is told hangs on nothing else, nor on who else asks at the same time.
func TestBestAtOnce(t *testing.T) {
	d := rand.New(rand.NewPCG(13, 8))
	l, inflow := drawnLakes(d, api.MaxLakes, 9), drawnRows(d, api.MaxHours, api.MaxLakes, 2)
	price, end := drawnNumbers(d, api.MaxHours, 3), drawnNumbers(d, api.MaxLakes, 3)
	want, worth, _ := water.Best(l, inflow, price, end)
	var all sync.WaitGroup
	for range 20 {
		all.Go(func() { wantBest(t, l, inflow, price, end, want, worth) })
	}
	all.Wait()
}

// P13.4: what is answered is new memory, its hours apart from each other, and what is handed in stays as it is, its spare room too.
func TestBestOwnMemory(t *testing.T) {
	l, keptLakes := roomy(api.Lake{Most: 7}, example(), example())
	inflow, keptIn := roomyRows([]int{4, 4}, []int{4, 4}, []int{4, 4})
	price, keptPrice := roomy(-7, 1, 1, 1)
	end, keptEnd := roomy(-7, 0, 0)
	want := always(3, 2, 2)
	r, _, _ := water.Best(l, inflow, price, end)
	wantApart(t, r)
	fill(r, nil)
	wantKept(t, l, keptLakes)
	wantRowsKept(t, inflow, keptIn)
	wantKept(t, price, keptPrice)
	wantKept(t, end, keptEnd)
	wantBest(t, l, inflow, price, end, want, 12)
}
