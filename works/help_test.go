package works_test

import (
	"fmt"
	"slices"
	"strconv"
	"testing"

	"gridworks/api"
	"gridworks/works"
)

// wire: a line's ends, its Worth, and its Limit; of a tie these two say nothing.
type wire struct{ from, to, worth, limit int }

// gen: a generator's bus, Least and Most.
type gen struct{ bus, least, most int }

// load: a load's bus, and what it draws.
type load struct{ bus, power int }

// network of so many buses, with these lines and closed ties.
func network(buses int, lines, ties []wire) api.Net {
	n := api.Net{Name: "n"}
	for i := range buses {
		n.Buses = append(n.Buses, "b"+strconv.Itoa(i))
	}
	for i, w := range lines {
		n.Lines = append(n.Lines, api.Line{Name: "l" + strconv.Itoa(i), From: w.from, To: w.to, Worth: w.worth, Limit: w.limit})
	}
	for i, w := range ties {
		n.Ties = append(n.Ties, api.Tie{Name: "t" + strconv.Itoa(i), From: w.from, To: w.to, Closed: true})
	}
	return n
}

// with: the network with these generators and loads in place of its own.
func with(n api.Net, gens []gen, loads []load) api.Net {
	n.Gens, n.Loads = nil, nil
	for i, g := range gens {
		n.Gens = append(n.Gens, api.Gen{Name: "g" + strconv.Itoa(i), Bus: g.bus, Least: g.least, Most: g.most, Cost: 7 * i})
	}
	for i, l := range loads {
		n.Loads = append(n.Loads, api.Load{Name: "d" + strconv.Itoa(i), Bus: l.bus, Power: l.power})
	}
	return n
}

// triangle: chapter 4's, with these Limits, a generator of 0 to 20 at one end, and a load of so much at the other.
func triangle(a, b, c, power int) api.Net {
	return with(network(3, []wire{{0, 1, 1, a}, {1, 2, 1, b}, {0, 2, 2, c}}, nil), []gen{{0, 0, 20}}, []load{{2, power}})
}

// single: one bus, with these generators, and loads that draw so much.
func single(gens []gen, powers ...int) api.Net {
	var loads []load
	for _, p := range powers {
		loads = append(loads, load{0, p})
	}
	return with(network(1, nil, nil), gens, loads)
}

// flags by a text: 1 is true.
func flags(text string) []bool {
	l := make([]bool, len(text))
	for i := range l {
		l[i] = text[i] == '1'
	}
	return l
}

// all: so many flags, all the same.
func all(flag bool, count int) []bool { return slices.Repeat([]bool{flag}, count) }

func event(kind, at, to int) api.Event { return api.Event{Kind: kind, At: at, To: to} }
func trip(line int) api.Event          { return event(api.Trip, line, 0) }
func shed(load, of int) api.Event      { return event(api.Shed, load, of) }
func dark(bus int) api.Event           { return event(api.Dark, bus, 0) }

// entries of one moment.
func entries(now int, l ...api.Event) []api.Entry {
	var log []api.Entry
	for _, e := range l {
		log = append(log, api.Entry{Now: now, Event: e})
	}
	return log
}

// alike: an empty list may be nil or not.
func alike(a, b any) bool { return fmt.Sprintf("%+v", a) == fmt.Sprintf("%+v", b) }

func wantWorld(t *testing.T, w, want api.World) {
	t.Helper()
	if !alike(w, want) {
		t.Errorf("%+v; %+v is wanted", w, want)
	}
}

func begun(t *testing.T, n api.Net) api.World {
	t.Helper()
	w, e := works.Begin(n)
	if e != api.OK {
		t.Fatalf("Begin(%+v): %d", n, e)
	}
	return w
}

// stepped: the world after these events.
func stepped(t *testing.T, w api.World, l ...api.Event) api.World {
	t.Helper()
	for _, v := range l {
		x, e := works.Step(w, v)
		if e != api.OK {
			t.Fatalf("Step(%+v, %v): %d", w, v, e)
		}
		w = x
	}
	return w
}

// wantBegin: which lines are out when a network begins, what is generated and given, and what is told.
func wantBegin(t *testing.T, n api.Net, out string, plan, given []int, told ...api.Event) {
	t.Helper()
	wantWorld(t, begun(t, n), api.World{Net: n, Out: flags(out), On: all(true, len(n.Gens)), Plan: plan, Given: given, Log: entries(0, told...)})
}

// wantStep: what an event does to which lines are out, to what is generated and given, and what is told behind it. It answers the world.
func wantStep(t *testing.T, w api.World, v api.Event, out string, plan, given []int, told ...api.Event) api.World {
	t.Helper()
	x := stepped(t, w, v)
	log := append(slices.Clone(w.Log), entries(w.Now+1, append([]api.Event{v}, told...)...)...)
	if x.Now != w.Now+1 || !slices.Equal(x.Out, flags(out)) || !slices.Equal(x.Plan, plan) || !slices.Equal(x.Given, given) || !slices.Equal(x.Log, log) {
		t.Errorf("Step(%+v, %v): %+v; %s, %v, %v, %v are wanted", w, v, x, out, plan, given, log)
	}
	return x
}

func wantFlows(t *testing.T, w api.World, want ...string) {
	t.Helper()
	if l, e := works.Flows(w); e != api.OK || !slices.Equal(l, want) {
		t.Errorf("Flows(%+v): %v, %d; %v are wanted", w, l, e, want)
	}
}

func wantWake(t *testing.T, w api.World, black string, want ...int) {
	t.Helper()
	if l, e := works.Wake(w, flags(black)); e != api.OK || !slices.Equal(l, want) {
		t.Errorf("Wake(%+v, %s): %v, %d; %v are wanted", w, black, l, e, want)
	}
}

// noStep: whether an event is refused like this, with nothing beside it.
func noStep(t *testing.T, w api.World, v api.Event, want api.Errno) {
	t.Helper()
	if x, e := works.Step(w, v); e != want || !alike(x, api.World{}) {
		t.Errorf("Step(%+v, %v): %+v, %d; %d is wanted", w, v, x, e, want)
	}
}

// noFlows: whether Flows refuses like this, with nothing beside it.
func noFlows(t *testing.T, w api.World, want api.Errno) {
	t.Helper()
	if l, e := works.Flows(w); e != want || len(l) > 0 {
		t.Errorf("Flows(%+v): %v, %d; %d is wanted", w, l, e, want)
	}
}

// noWake: whether Wake refuses like this, with nothing beside it.
func noWake(t *testing.T, w api.World, black []bool, want api.Errno) {
	t.Helper()
	if l, e := works.Wake(w, black); e != want || len(l) > 0 {
		t.Errorf("Wake(%+v, %v): %v, %d; %d is wanted", w, black, l, e, want)
	}
}

// noWorld: whether a world may not be, whatever is asked of it, and whatever else is wrong.
func noWorld(t *testing.T, w api.World) {
	t.Helper()
	for _, v := range []api.Event{event(api.Fails, 0, 0), event(api.Draw, 0, 1), {}, event(api.Mend, -1, 0)} {
		noStep(t, w, v, api.ErrState)
	}
	noFlows(t, w, api.ErrState)
	noWake(t, w, make([]bool, len(w.Net.Gens)), api.ErrState)
	noWake(t, w, make([]bool, len(w.Net.Gens)+1), api.ErrState)
}

// aWorld: whether a world may be.
func aWorld(t *testing.T, w api.World) {
	t.Helper()
	noStep(t, w, api.Event{}, api.ErrKind)
	noWake(t, w, make([]bool, len(w.Net.Gens)+1), api.ErrSize)
	if _, e := works.Flows(w); e != api.OK && e != api.ErrSum {
		t.Errorf("Flows(%+v): %d", w, e)
	}
}

// roomy: a list with spare room that isn't empty.
func roomy[T any](l []T, spare T) []T {
	return append(append(make([]T, 0, len(l)+5), l...), spare, spare)[:len(l)]
}

// fill a list with what it hasn't, its spare room too.
func fill[T any](l []T, x T) {
	l = l[:cap(l)]
	for i := range l {
		l[i] = x
	}
}
