package commit_test

import (
	"math/rand/v2"
	"slices"
	"testing"

	"gridworks/api"
	"gridworks/commit"
)

// P9.2: who is off generates nothing, who is on Least, and what more is needed the cheapest ones.
func TestMerit(t *testing.T) {
	l := []api.Unit{free(10, 50, 3), free(5, 20, 1), free(0, 30, 2)}
	wantMerit(t, l, "111", 15, 10, 5, 0)
	wantMerit(t, l, "111", 16, 10, 6, 0)
	wantMerit(t, l, "111", 30, 10, 20, 0)
	wantMerit(t, l, "111", 31, 10, 20, 1)
	wantMerit(t, l, "111", 60, 10, 20, 30)
	wantMerit(t, l, "111", 61, 11, 20, 30)
	wantMerit(t, l, "111", 100, 50, 20, 30)
	wantMerit(t, l, "101", 10, 10, 0, 0)
	wantMerit(t, l, "101", 45, 15, 0, 30)
	wantMerit(t, l, "011", 5, 0, 5, 0)
	wantMerit(t, l, "011", 22, 0, 20, 2)
	wantMerit(t, l, "010", 20, 0, 20, 0)
	wantMerit(t, l, "001", 0, 0, 0, 0)
	wantMerit(t, l, "000", 0, 0, 0, 0)
}

// P9.2: of those of one Cost the first ones are first, whatever stands between them.
func TestMeritOfOneCost(t *testing.T) {
	l := []api.Unit{free(0, 10, 5), free(1, 10, 4), free(2, 10, 5), free(3, 10, 4)}
	wantMerit(t, l, "1111", 6, 0, 1, 2, 3)
	wantMerit(t, l, "1111", 14, 0, 9, 2, 3)
	wantMerit(t, l, "1111", 16, 0, 10, 2, 4)
	wantMerit(t, l, "1111", 25, 3, 10, 2, 10)
	wantMerit(t, l, "1111", 33, 10, 10, 3, 10)
	wantMerit(t, l, "0111", 23, 0, 10, 3, 10)
	wantMerit(t, l, "1011", 23, 10, 0, 3, 10)
	wantMerit(t, []api.Unit{free(0, 9, 0), free(0, 9, 0)}, "11", 9, 9, 0)
}

// P9.2: those that are on generate more at least, or less at most, than is needed.
func TestMeritSums(t *testing.T) {
	l := []api.Unit{free(10, 50, 3), free(5, 20, 1), free(0, 0, 2)}
	for _, k := range []struct {
		on          string
		least, most int
	}{{"111", 15, 70}, {"110", 15, 70}, {"100", 10, 50}, {"011", 5, 20}, {"001", 0, 0}, {"000", 0, 0}} {
		for need := range 100 {
			if need < k.least || need > k.most {
				noMerit(t, l, bits(k.on), need, api.ErrSum)
			} else if power, e := commit.Merit(l, bits(k.on), need); e != api.OK || power[0]+power[1]+power[2] != need {
				t.Error(k, need, power, e)
			}
		}
		noMerit(t, l, bits(k.on), api.MaxUnits*api.MaxPower, api.ErrSum)
	}
}

// P9.2: the greatest units; and none.
func TestMeritEdges(t *testing.T) {
	l := slices.Repeat([]api.Unit{free(0, api.MaxPower, api.MaxCost)}, api.MaxUnits)
	wantMerit(t, l, "1111", api.MaxUnits*api.MaxPower, api.MaxPower, api.MaxPower, api.MaxPower, api.MaxPower)
	wantMerit(t, l, "1111", api.MaxPower+1, api.MaxPower, 1, 0, 0)
	noMerit(t, l, bits("1101"), 3*api.MaxPower+1, api.ErrSum)
	l[3].Least = api.MaxPower
	wantMerit(t, l, "1111", api.MaxPower+2, 2, 0, 0, api.MaxPower)
	noMerit(t, l, bits("1111"), api.MaxPower-1, api.ErrSum)
	wantMerit(t, nil, "", 0)
	wantMerit(t, []api.Unit{}, "", 0)
	noMerit(t, nil, nil, 1, api.ErrSum)
	noMerit(t, nil, nil, api.MaxUnits*api.MaxPower, api.ErrSum)
}

// P9.2: how long a unit has been on or off, and what it costs to turn it on, is not asked.
func TestMeritOfNow(t *testing.T) {
	for _, was := range []int{-api.MaxWas, -1, 1, api.MaxWas} {
		l := []api.Unit{{Least: 1, Most: 9, Cost: 7, Start: api.MaxStart, Up: 3, Down: 3, Was: was}, free(2, 5, 8)}
		wantMerit(t, l, "11", 8, 6, 2)
		wantMerit(t, l, "01", 3, 0, 3)
	}
}

// P9.2: drawn units, megawatt by megawatt.
func TestDrawnMerit(t *testing.T) {
	d := rand.New(rand.NewPCG(9, 2))
	some, none := 0, 0
	for range 20000 {
		l := drawnUnits(d, d.IntN(api.MaxUnits+1))
		on, need := drawnOn(d, len(l), 1)[0], d.IntN(60)
		want := byOne(l, on, need)
		if want == nil {
			noMerit(t, l, on, need, api.ErrSum)
			none++
			continue
		}
		some++
		if power, e := commit.Merit(l, on, need); !slices.Equal(power, want) || e != api.OK {
			t.Fatalf("Merit(%+v, %v, %d): %v, %d; %v is wanted", l, on, need, power, e, want)
		}
	}
	if some < 2000 || none < 2000 {
		t.Error("too few of a kind:", some, none)
	}
}

// P9.2: what is answered is new memory, and what is handed in stays as it is, its spare room too.
func TestMeritOwnMemory(t *testing.T) {
	l, on := append(make([]api.Unit, 0, 8), free(1, 9, 4), free(2, 9, 3)), append(make([]bool, 0, 8), true, true)
	first, _ := commit.Merit(l, on, 8)
	clear(first[:cap(first)])
	if again, e := commit.Merit(l, on, 8); !slices.Equal(again, []int{1, 7}) || e != api.OK {
		t.Error(again, e)
	}
	if !slices.Equal(l[:8], append([]api.Unit{free(1, 9, 4), free(2, 9, 3)}, make([]api.Unit, 6)...)) || !slices.Equal(on[:8], bits("11000000")) {
		t.Error(l[:8], on[:8])
	}
}
