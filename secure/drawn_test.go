package secure_test

import (
	"math/rand/v2"
	"slices"
	"sync"
	"testing"

	"gridworks/api"
	"gridworks/secure"
)

// P6.2: what goes wrong in drawn networks, held against each failure made to happen.
func TestDrawn(t *testing.T) {
	d := rand.New(rand.NewPCG(6, 2))
	kinds := map[api.Breach]int{} // how often each kind of failure did harm to a line, and how often elsewhere
	for range 300 {
		n, out, plan := drawn(t, d, 7, 12, 3, 6)
		want := breaches(t, n, out, plan)
		wantBreaches(t, n, out, plan, want...)
		for _, b := range want {
			kinds[api.Breach{Kind: b.Kind, On: min(b.On, 0)}]++
		}
	}
	if len(kinds) != 5 {
		t.Error("not all that can go wrong did:", kinds)
	}
}

// P6.2: where nothing is told, no line carries too much, whatever single thing fails; and to raise all Limits enough leaves splits and lacks alone.
func TestDrawnLimits(t *testing.T) {
	d := rand.New(rand.NewPCG(6, 3))
	for range 100 {
		n, out, plan := drawn(t, d, 7, 12, 3, 6)
		var want []api.Breach
		for _, b := range breaches(t, n, out, plan) {
			if b.On == -1 {
				want = append(want, b)
			}
		}
		for i := range n.Lines {
			n.Lines[i].Limit = api.MaxPower
		}
		wantBreaches(t, n, out, plan, want...)
	}
}

// largest: as much of all as may be: buses, lines in rings, generators and loads of the greatest powers, the greatest Worths; and a plan.
func largest() (api.Net, []int) {
	var lines []wire
	for i := range api.MaxLines {
		lines = append(lines, wire{i % api.MaxBuses, (i + 1 + i/api.MaxBuses) % api.MaxBuses, api.MaxWorth - i, 1000 * i})
	}
	var gens []gen
	var plan []int
	all := 0
	for i := range api.MaxGens {
		gens = append(gens, gen{(5 * i) % api.MaxBuses, i, api.MaxPower - i})
		plan = append(plan, api.MaxPower-5003*(i+1)/2)
		all += plan[i]
	}
	loads := slices.Repeat([]load{{1, all / api.MaxLoads}}, api.MaxLoads)
	for i := range loads {
		loads[i].bus = (7 * i) % api.MaxBuses
	}
	loads[0].power += all % api.MaxLoads
	return with(network(api.MaxBuses, lines, nil), gens, loads), plan
}

// P6.2: the greatest network, whole and with lines out; its numbers are long.
func TestLargest(t *testing.T) {
	n, plan := largest()
	for _, out := range [][]bool{lacking(n), lacking(n, 1, 7, 20), lacking(n, 29)} {
		want := breaches(t, n, out, plan)
		if len(want) < api.MaxLines+api.MaxGens || !slices.ContainsFunc(want, func(b api.Breach) bool { return len(b.By) > api.MaxDigits }) {
			t.Error("little goes wrong:", want)
		}
		wantBreaches(t, n, out, plan, want...)
	}
}

// P6.2: what is told hangs on no order in which failures are looked at, nor on who else asks at the same time.
func TestAtOnce(t *testing.T) {
	n, plan := largest()
	out := lacking(n, 3)
	want, _ := secure.Check(n, out, plan)
	var all sync.WaitGroup
	told := make([][]api.Breach, 40)
	for i := range told {
		all.Go(func() { told[i], _ = secure.Check(n, out, plan) })
	}
	all.Wait()
	for _, l := range told {
		if len(want) == 0 || !slices.Equal(l, want) {
			t.Fatalf("%v; %v are wanted", l, want)
		}
	}
}

// P6.2: what is answered is new memory, and what is handed in stays as it is, its spare room too.
func TestCheckOwnMemory(t *testing.T) {
	n := with(triangle(4, 10, 10), []gen{{0, 0, 20}}, []load{{2, 5}})
	out, plan := append(make([]bool, 0, 8), false, false, false), append(make([]int, 0, 8), 5)
	l, _ := secure.Check(n, out, plan)
	l = l[:cap(l)]
	for i := range l {
		l[i] = api.Breach{}
	}
	wantBreaches(t, n, out, plan, noLine(2, 0, "1"), lacks(0, "5"))
	same := with(triangle(4, 10, 10), []gen{{0, 0, 20}}, []load{{2, 5}})
	if slices.Contains(out[:8], true) || !slices.Equal(plan[:8], []int{5, 0, 0, 0, 0, 0, 0, 0}) ||
		!slices.Equal(n.Lines, same.Lines) || !slices.Equal(n.Gens, same.Gens) || !slices.Equal(n.Loads, same.Loads) {
		t.Error(n, out[:8], plan[:8])
	}
}
