package yard_test

import (
	"math/rand/v2"
	"slices"
	"sync"
	"testing"

	"gridworks/api"
	"gridworks/yard"
)

// P10.4: the chapter's example, there and back.
func TestPlan(t *testing.T) {
	wantPlan(t, laid("3 0 2 d01 b12"), "11", 0, 1)
	wantPlan(t, laid("3 0 2 b12 d01"), "11", 1, 0)
	wantPlan(t, laid("3 0 2 D01 B12"), "00", 1, 0)
	wantPlan(t, laid("3 0 2 B12 D01"), "00", 0, 1)
	wantPlan(t, laid("3 0 2 d01 B12"), "11", 1, 0, 1)
	wantPlan(t, laid("3 0 2 D01 B12"), "01", 1, 0, 1)
}

// P10.4: what is as it should be needs no move.
func TestNoMoves(t *testing.T) {
	wantPlan(t, laid("1 - -"), "")
	wantPlan(t, laid("3 0 2"), "")
	wantPlan(t, laid("3 0 2 D01 b12 e2"), "100")
	wantPlan(t, laid("X 9 0 D98 B87 D76 B65 D54 b43 D32 B21 D10 e0"), "1111101110")
}

// P10.4: of several rows of one length the first one is told, by the first move, then by the second, ..
func TestFirst(t *testing.T) {
	wantPlan(t, laid("4 - - b01 b12 b23"), "111", 0, 1, 2)
	wantPlan(t, laid("4 - - B01 b12 B23"), "010", 0, 1, 2)
	wantPlan(t, laid("4 0 3 b01 b12 b23 e0"), "1110", 0, 1, 2)
	wantPlan(t, laid("4 0 2 d12 b01 d01"), "111", 0, 1, 2)
	wantPlan(t, laid("4 0 2 d02 b02"), "10", 1, 0, 1) // a Breaker bridges the Blade for a while
	wantPlan(t, laid("4 0 2 d02 b02 b02"), "100", 1, 0, 1)
	wantPlan(t, laid("4 0 2 b02 d02 b02"), "010", 0, 1, 0)
	wantPlan(t, laid("4 0 2 b02 d02 b02"), "011", 2, 1)
}

// P10.4: a load is moved from one busbar to the other without a break: both are joined meanwhile.
func TestBusbars(t *testing.T) {
	// Busbars 0 (fed) and 1, a feeder at 2: Blades to both, a Breaker between them.
	y := laid("3 0 2 D02 d12 b01")
	wantPlan(t, y, "010", 1, 2, 0, 2)
	wantPlan(t, y, "011", 1, 2, 0)
	// The other busbar is fed, or draws: the Breaker has to be first.
	wantPlan(t, laid("3 01 2 D02 d12 b01"), "010", 2, 1, 0, 2)
	wantPlan(t, laid("3 0 12 D02 d12 b01"), "011", 2, 1, 0)
}

// P10.4: what is worked on is parted and earthed, then put back.
func TestWork(t *testing.T) {
	y := laid("4 03 - D01 B12 D23 e1 e2")
	wantPlan(t, y, "00011", 1, 0, 2, 3, 4)
	z := laid("4 03 - d01 b12 d23 E1 E2") // the Breaker is last: no Blade may join what is live twice
	wantPlan(t, z, "11100", 3, 0, 4, 2, 1)
	noPlan(t, z, bits("11110"), api.ErrNone)
}

// P10.4: there is no row of moves: what is asked for is not sound, or no move that is let through leads there.
func TestNone(t *testing.T) {
	noPlan(t, laid("1 0 - e0"), bits("1"), api.ErrNone)
	noPlan(t, laid("2 0 - b01 e1"), bits("11"), api.ErrNone)
	noPlan(t, laid("2 0 - b01 E1"), bits("11"), api.ErrNone)
	noPlan(t, laid("2 0 1 d01"), bits("1"), api.ErrNone)
	noPlan(t, laid("2 0 1 D01"), bits("0"), api.ErrNone)
	noPlan(t, laid("2 01 - d01 e0"), bits("10"), api.ErrNone)
	noPlan(t, laid("4 0 2 d02 b01 b13"), bits("111"), api.ErrNone)
}

// P10.4: each move of a plan is let through, one by one, and the goal is reached.
func TestPlanIsLetThrough(t *testing.T) {
	d := rand.New(rand.NewPCG(10, 5))
	some := 0
	for range 400 {
		y := drawnSound(d, 2+d.IntN(api.MaxPoints-1), d.IntN(api.MaxDevices+1), 3)
		goal := drawnGoal(d, len(y.Devices))
		l, e := yard.Plan(y, goal)
		if e != api.OK {
			continue
		}
		some++
		z := y
		for _, k := range l {
			if z, e = yard.Move(z, k); e != api.OK {
				t.Fatalf("Plan(%v, %v): %v: move of %d: %d", y, goal, l, k, e)
			}
		}
		if !slices.Equal(closedOf(z), goal) {
			t.Fatalf("Plan(%v, %v): %v leads to %v", y, goal, l, z)
		}
	}
	if some < 60 {
		t.Error("too few plans:", some)
	}
}

// P10.4: drawn yards, held against how far each setting is away from each goal.
func TestDrawnPlans(t *testing.T) {
	d := rand.New(rand.NewPCG(10, 6))
	plans, none, long := 0, 0, 0
	for range 250 {
		y := drawnSound(d, 2+d.IntN(4), d.IntN(8), 3)
		may := moves(y)
		for goal := range may {
			want, ok := foremost(may, number(closedOf(y)), goal)
			closed := text(closedOf(set(y, goal)))
			if !ok {
				none++
				noPlan(t, y, bits(closed), api.ErrNone)
				continue
			}
			plans++
			if len(want) > len(y.Devices) {
				long++
			}
			wantPlan(t, y, closed, want...)
		}
	}
	if plans < 1000 || none < 1000 || long < 10 {
		t.Error("too few:", plans, none, long)
	}
}

// P10.4: as many points and devices as may be.
func TestGreatestPlans(t *testing.T) {
	d := rand.New(rand.NewPCG(10, 7))
	for range 6 {
		y := drawnSound(d, api.MaxPoints-d.IntN(7), api.MaxDevices, 3)
		may := moves(y)
		for range 8 {
			goal := drawnGoal(d, len(y.Devices))
			if want, ok := foremost(may, number(closedOf(y)), number(goal)); ok {
				wantPlan(t, y, text(goal), want...)
			} else {
				noPlan(t, y, goal, api.ErrNone)
			}
		}
	}
	free := laid("X - - b01 b12 b23 b34 b45 b56 b67 b78 b89 b90")
	wantPlan(t, free, "1111111111", 0, 1, 2, 3, 4, 5, 6, 7, 8, 9)
	wantPlan(t, free, "0000000001", 9)
}

// P10.4: what is told hangs on nothing else, nor on who else asks at the same time.
func TestPlanAtOnce(t *testing.T) {
	y, goal := laid("4 03 - d01 b12 d23 E1 E2"), bits("11100")
	var all sync.WaitGroup
	told := make([][]int, 20)
	for i := range told {
		all.Go(func() { told[i], _ = yard.Plan(y, goal) })
	}
	all.Wait()
	for i := range told {
		if !slices.Equal(told[i], []int{3, 0, 4, 2, 1}) {
			t.Error(i, told[i])
		}
	}
}

// P10.4: what is answered is new memory, and what is handed in stays as it is, its spare room too.
func TestPlanOwnMemory(t *testing.T) {
	y, kept := roomy()
	goal := append(make([]bool, 0, 9), true, true, false, false)
	for range 2 {
		l, e := yard.Plan(y, goal)
		if !slices.Equal(l, []int{1, 2, 3}) || e != api.OK {
			t.Fatal(l, e)
		}
		spoil(l)
		wantKept(t, y, kept)
		if text(goal[:9]) != "110000000" {
			t.Error("changed:", goal[:9])
		}
	}
}
