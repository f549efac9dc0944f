package works_test

import (
	"math"
	"math/rand/v2"
	"slices"
	"sync"
	"testing"

	"gridworks/api"
	"gridworks/bars"
	"gridworks/works"
)

// wantJust: what comes of it: each island generates just what it gives, no line carries too much, and where a load is given less than it draws its island is dark, or all its generators that are on generate Most.
func wantJust(t *testing.T, w api.World) {
	t.Helper()
	for _, x := range excess(w, toldFlows(w)) { // there are none, if an island does not generate what it gives
		if x.Sign() > 0 {
			t.Errorf("%+v: a line carries %v too much", w, x)
		}
	}
	if _, e := works.Flows(w); e != api.OK {
		t.Errorf("Flows(%+v): %d", w, e)
	}
	islands, _ := bars.Islands(w.Net, w.Out)
	for k := range islands {
		idle, full, lacks := true, true, false
		for i, g := range w.Net.Gens {
			if islands[g.Bus] == k && w.On[i] {
				idle, full = idle && w.Plan[i] == 0, full && w.Plan[i] == g.Most
			}
		}
		for i, l := range w.Net.Loads {
			if islands[l.Bus] == k {
				idle, lacks = idle && w.Given[i] == 0, lacks || w.Given[i] < l.Power
			}
		}
		if lacks && !idle && !full {
			t.Errorf("%+v: in island %d something lacks", w, k)
		}
	}
}

// P16.1: what comes of it, whatever happens.
func TestJust(t *testing.T) {
	d := rand.New(rand.NewPCG(16, 4))
	for range 200 {
		w := begun(t, drawn(d, 8, 12, 5, 90))
		wantJust(t, w)
		for range 6 {
			if x, e := works.Step(w, drawnEvent(d, 90)); e == api.OK {
				w = x
				wantJust(t, w)
			}
		}
	}
}

// P16.1: what is, hangs on what is out, closed, drawn and on: what was generated, given and told ahead says nothing.
func TestNothingAhead(t *testing.T) {
	d := rand.New(rand.NewPCG(16, 5))
	for range 200 {
		w := drawnWorld(d, drawn(d, 6, 9, 4, 60))
		other := copied(w)
		clear(other.Plan)
		clear(other.Given)
		other.Now, other.Log = 0, nil
		v := drawnEvent(d, 60)
		a, e := works.Step(w, v)
		b, f := works.Step(other, v)
		a.Now, a.Log, b.Now, b.Log = 0, nil, 0, nil
		if e != f || !alike(a, b) {
			t.Fatalf("%+v, %v: %+v, %d; %+v, %d", w, v, a, e, b, f)
		}
	}
}

// P16.1: what is settled stays so: to draw what is drawn already changes nothing, and trips nothing.
func TestStays(t *testing.T) {
	d := rand.New(rand.NewPCG(16, 6))
	for range 200 {
		w := begun(t, drawn(d, 6, 9, 4, 60))
		if len(w.Net.Loads) == 0 {
			continue
		}
		x := stepped(t, w, event(api.Draw, 0, w.Net.Loads[0].Power))
		a, b := copied(w), copied(x)
		a.Now, a.Log, b.Now, b.Log = 0, nil, 0, nil
		if !alike(a, b) || slices.ContainsFunc(x.Log, func(l api.Entry) bool { return l.Now == 1 && l.Event.Kind == api.Trip }) {
			t.Fatalf("%+v; %+v", w, x)
		}
	}
}

// largest: as much of all as may be, of the greatest powers and Worths.
func largest() api.Net {
	var lines, ties []wire
	for i := range api.MaxLines {
		lines = append(lines, wire{i % api.MaxBuses, (i + 1 + i/api.MaxBuses) % api.MaxBuses, api.MaxWorth - i*i, 1000 * i})
	}
	for i := range api.MaxTies {
		ties = append(ties, wire{i % api.MaxBuses, (i + 7) % api.MaxBuses, 0, 0})
	}
	var gens []gen
	for i := range api.MaxGens {
		gens = append(gens, gen{(5 * i) % api.MaxBuses, i, api.MaxPower - 17*i})
	}
	var loads []load
	for i := range api.MaxLoads {
		loads = append(loads, load{(7 * i) % api.MaxBuses, api.MaxPower - 1003*i})
	}
	n := with(network(api.MaxBuses, lines, ties), gens, loads)
	for i := range n.Ties {
		n.Ties[i].Closed = false
	}
	return n
}

// P16.1 to P16.6: the greatest network; its numbers are long, and its lines trip one after the other.
func TestLargest(t *testing.T) {
	d := rand.New(rand.NewPCG(16, 7))
	n := largest()
	want := api.World{Net: n, Out: make([]bool, len(n.Lines)), On: all(true, len(n.Gens))}
	want.Log = entries(0, toldSettle(&want)...)
	w := begun(t, n)
	wantWorld(t, w, want)
	if count := len(slices.DeleteFunc(slices.Clone(w.Out), func(out bool) bool { return !out })); count < 15 {
		t.Errorf("%d lines are out", count)
	}
	for i := range api.MaxTies {
		w, _ = check(t, d, w, event(api.Switch, i, i%2))
		w, _ = check(t, d, w, event(api.Mend, i, 0))
	}
	wide := api.World{Net: n, Out: make([]bool, len(n.Lines)), On: all(true, len(n.Gens))}
	for i := range wide.Net.Lines {
		wide.Net.Lines[i].Limit = api.MaxPower
	}
	toldSettle(&wide)
	if l, e := works.Flows(wide); e != api.OK || !slices.ContainsFunc(l, func(f string) bool { return len(f) > api.MaxDigits }) {
		t.Error("flows are short:", l, e)
	}
	check(t, d, wide, event(api.Start, 3, 0))
}

// aged: a world, whose lists have spare room that isn't empty.
func aged() api.World {
	w := sound()
	n := &w.Net
	n.Buses, n.Lines = roomy(n.Buses, "spare"), roomy(n.Lines, api.Line{Worth: 77})
	n.Gens, n.Loads, n.Ties = roomy(n.Gens, api.Gen{Most: 77}), roomy(n.Loads, api.Load{Power: 77}), roomy(n.Ties, api.Tie{From: 77})
	w.Out, w.On, w.Plan, w.Given = roomy(w.Out, true), roomy(w.On, true), roomy(w.Plan, 77), roomy(w.Given, 77)
	w.Log = roomy(w.Log, api.Entry{Now: 77})
	return w
}

// spare: all that a world holds, its lists' spare room too.
func spare(w api.World) []any {
	n := w.Net
	return []any{n.Name, n.Buses[:cap(n.Buses)], n.Lines[:cap(n.Lines)], n.Gens[:cap(n.Gens)], n.Loads[:cap(n.Loads)], n.Ties[:cap(n.Ties)],
		w.Out[:cap(w.Out)], w.On[:cap(w.On)], w.Plan[:cap(w.Plan)], w.Given[:cap(w.Given)], w.Log[:cap(w.Log)], w.Now}
}

// spoil all that a world holds.
func spoil(w api.World) {
	n := w.Net
	fill(n.Buses, "spoilt")
	fill(n.Lines, api.Line{Name: "spoilt"})
	fill(n.Gens, api.Gen{Name: "spoilt"})
	fill(n.Loads, api.Load{Name: "spoilt"})
	fill(n.Ties, api.Tie{Name: "spoilt"})
	fill(w.Out, true)
	fill(w.On, true)
	fill(w.Plan, -1)
	fill(w.Given, -1)
	fill(w.Log, api.Entry{Now: -1})
}

// What is handed in stays as it is, its spare room too, and is not kept; what is answered is new memory.
func TestOwnMemory(t *testing.T) {
	events := []api.Event{event(api.Fails, 1, 0), event(api.Mend, 0, 0), event(api.Switch, 0, 0), event(api.Draw, 1, 9), event(api.Start, 0, 0)}
	for _, v := range events {
		w := aged()
		want, _ := toldStep(sound(), v)
		a, b := stepped(t, w, v), stepped(t, w, v)
		spoil(a)
		wantWorld(t, b, want)
		if !alike(spare(w), spare(aged())) {
			t.Errorf("%v: %v; %v is wanted", v, spare(w), spare(aged()))
		}
		c := stepped(t, w, v)
		spoil(w)
		wantWorld(t, b, want)
		wantWorld(t, c, want)
	}
	w := aged()
	a, b := begun(t, w.Net), begun(t, w.Net)
	spoil(a)
	wantWorld(t, b, begun(t, sound().Net))
	if !alike(spare(w), spare(aged())) {
		t.Errorf("%v; %v is wanted", spare(w), spare(aged()))
	}
	spoil(w)
	wantWorld(t, b, begun(t, sound().Net))
}

// What Flows and Wake answer is new memory, too, and they change nothing.
func TestOwnLists(t *testing.T) {
	w, black := aged(), roomy(flags("101"), true)
	flows, e := works.Flows(w)
	if e != api.OK {
		t.Error(e)
	}
	fill(flows, "spoilt")
	wantFlows(t, w, "0", "0")
	order, e := works.Wake(w, black)
	if e != api.OK {
		t.Error(e)
	}
	fill(order, -1)
	wantWake(t, w, "101", 0, 2, 1)
	if !alike(spare(w), spare(aged())) || !slices.Equal(black[:cap(black)], roomy(flags("101"), true)[:cap(black)]) {
		t.Error(w, black[:cap(black)])
	}
	noStep(t, w, event(api.Draw, 2, 0), api.ErrRange)
	if !alike(spare(w), spare(aged())) {
		t.Error(w)
	}
}

// Lists of little, nil or not, are the same.
func TestNilOrNot(t *testing.T) {
	bare := api.World{Net: api.Net{Name: "n", Buses: []string{"a"}}}
	full := api.World{Net: api.Net{Name: "n", Buses: []string{"a"}, Lines: []api.Line{}, Gens: []api.Gen{}, Loads: []api.Load{}, Ties: []api.Tie{}}, Out: []bool{}, On: []bool{}, Plan: []int{}, Given: []int{}, Log: []api.Entry{}}
	for _, w := range []api.World{bare, full} {
		aWorld(t, w)
		wantFlows(t, w)
		wantWake(t, w, "")
		wantBegin(t, w.Net, "", nil, nil, dark(0))
	}
}

// What is asked of one world at the same time hangs on nothing but that world.
func TestAtOnce(t *testing.T) {
	w := begun(t, triangle(10, 10, 10, 5))
	v := event(api.Draw, 0, 30)
	want := stepped(t, w, v)
	told := make([]api.World, 20)
	var all sync.WaitGroup
	for i := range told {
		all.Go(func() { told[i], _ = works.Step(w, v) })
	}
	all.Wait()
	for _, x := range told {
		wantWorld(t, x, want)
	}
}

// odd: one of some numbers, near and far.
func odd(d *rand.Rand) int {
	l := []int{0, 1, 2, 3, -1, 7, 100, api.MaxPower, api.MaxPower + 1, 1000000000, math.MaxInt, math.MinInt, 1 << 32}
	return l[d.IntN(len(l))]
}

// No call panics, whatever it is given; what is refused is answered by nothing else, and what is not may be.
func TestAnything(t *testing.T) {
	d := rand.New(rand.NewPCG(16, 8))
	for range 4000 {
		w := drawnWorld(d, drawn(d, 4, 3, 3, 20))
		for range d.IntN(4) {
			distort(d, &w)
		}
		v := event(d.IntN(8), odd(d), odd(d))
		x, e := works.Step(w, v)
		if e != api.OK && !alike(x, api.World{}) {
			t.Fatalf("Step(%+v, %v): %+v, %d", w, v, x, e)
		}
		if e == api.OK {
			aWorld(t, x)
		}
		works.Flows(w)
		works.Wake(w, make([]bool, d.IntN(5)))
		if x, e := works.Begin(w.Net); e == api.OK {
			aWorld(t, x)
		}
	}
}

// distort something of a world.
func distort(d *rand.Rand, w *api.World) {
	short := func(count int) int { return d.IntN(count + 2) }
	switch n := &w.Net; d.IntN(10) {
	case 0:
		w.Out = make([]bool, short(len(w.Out)))
	case 1:
		w.On = make([]bool, short(len(w.On)))
	case 2:
		w.Plan = slices.Repeat([]int{odd(d)}, short(len(w.Plan)))
	case 3:
		w.Given = slices.Repeat([]int{odd(d)}, short(len(w.Given)))
	case 4:
		w.Now = odd(d)
	case 5:
		w.Log = make([]api.Entry, d.IntN(110))
	case 6:
		n.Lines = append(n.Lines, api.Line{Name: "x", From: odd(d), To: odd(d), Worth: odd(d), Limit: odd(d)})
		w.Out = append(w.Out, false)
	case 7:
		n.Gens = append(n.Gens, api.Gen{Name: "y", Bus: odd(d), Least: odd(d), Most: odd(d), Cost: odd(d)})
		w.On, w.Plan = append(w.On, true), append(w.Plan, odd(d))
	case 8:
		n.Loads = append(n.Loads, api.Load{Name: "z", Bus: odd(d), Power: odd(d)})
		w.Given = append(w.Given, odd(d))
	case 9:
		n.Ties = append(n.Ties, api.Tie{Name: "v", From: odd(d), To: odd(d), Closed: true})
	}
}
