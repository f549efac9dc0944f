package works_test

import (
	"math/big"
	"math/rand/v2"
	"slices"
	"testing"

	"gridworks/api"
	"gridworks/bars"
	"gridworks/flow"
	"gridworks/works"
)

// toldShares: the tests' own shares: what is left is given one by one, each time to the first of those of which most was rounded away; where all weights are 0 none is shared.
func toldShares(total int, weights []int) []int {
	all := 0
	for _, w := range weights {
		all += w
	}
	shares := make([]int, len(weights))
	if all == 0 {
		return shares
	}
	left := total
	for i, w := range weights {
		shares[i] = total * w / all
		left -= shares[i]
	}
	given := make([]bool, len(weights))
	for range left {
		next := -1
		for i, w := range weights {
			if !given[i] && (next < 0 || total*w%all > total*weights[next]%all) {
				next = i
			}
		}
		given[next] = true
		shares[next]++
	}
	return shares
}

// toldFeed: the tests' own way to feed islands, each of which is asked for all that stands at it. It answers the first buses of those that are dark.
func toldFeed(w *api.World, islands []int) []int {
	w.Plan, w.Given = make([]int, len(w.Net.Gens)), make([]int, len(w.Net.Loads))
	var firsts []int
	for k := range len(islands) {
		if first := slices.Index(islands, k); first >= 0 && !toldLight(w, islands, k) {
			firsts = append(firsts, first)
		}
	}
	return firsts
}

// toldLight: loads are given what is left of Most, the first ones first.
func toldLight(w *api.World, islands []int, k int) bool {
	least, most, drawn, some := 0, 0, 0, false
	weights := make([]int, len(w.Net.Gens))
	for i, g := range w.Net.Gens {
		if islands[g.Bus] == k && w.On[i] {
			least, most, weights[i], some = least+g.Least, most+g.Most, g.Most-g.Least, true
		}
	}
	for _, d := range w.Net.Loads {
		if islands[d.Bus] == k {
			drawn += d.Power
		}
	}
	if !some || drawn < least {
		return false
	}
	left := most
	for i, d := range w.Net.Loads {
		if islands[d.Bus] == k {
			w.Given[i] = min(left, d.Power)
			left -= w.Given[i]
		}
	}
	for i, part := range toldShares(most-left-least, weights) {
		if islands[w.Net.Gens[i].Bus] == k && w.On[i] {
			w.Plan[i] = w.Net.Gens[i].Least + part
		}
	}
	return true
}

// toldFlows: what flows over each line, by chapter 4; nil: an island does not generate what it is given.
func toldFlows(w api.World) []*big.Rat {
	feeds := make([]*big.Rat, len(w.Net.Buses))
	told := make([]string, len(feeds))
	for bus := range feeds {
		feeds[bus] = new(big.Rat)
		for i, g := range w.Net.Gens {
			if g.Bus == bus {
				feeds[bus].Add(feeds[bus], big.NewRat(int64(w.Plan[i]), 1))
			}
		}
		for i, d := range w.Net.Loads {
			if d.Bus == bus {
				feeds[bus].Sub(feeds[bus], big.NewRat(int64(w.Given[i]), 1))
			}
		}
		told[bus] = feeds[bus].RatString()
	}
	s, e := flow.Solve(w.Net, w.Out, told)
	if e != api.OK {
		return nil
	}
	flows := make([]*big.Rat, len(s.Flows))
	for i, f := range s.Flows {
		flows[i], _ = new(big.Rat).SetString(f)
	}
	return flows
}

// excess: by how much each line carries more than its Limit.
func excess(w api.World, flows []*big.Rat) []*big.Rat {
	l := make([]*big.Rat, len(flows))
	for i, f := range flows {
		l[i] = new(big.Rat).Abs(f)
		l[i].Sub(l[i], big.NewRat(int64(w.Net.Lines[i].Limit), 1))
	}
	return l
}

// toldSettle: the tests' own way to settle, and what it tells. Lines are put in order by how much more they carry.
func toldSettle(w *api.World) []api.Event {
	var l []api.Event
	for {
		islands, _ := bars.Islands(w.Net, w.Out)
		firsts := toldFeed(w, islands)
		over := excess(*w, toldFlows(*w))
		order := make([]int, len(over))
		for i := range order {
			order[i] = i
		}
		slices.SortStableFunc(order, func(i, j int) int { return over[j].Cmp(over[i]) })
		if len(order) > 0 && over[order[0]].Sign() > 0 {
			w.Out[order[0]] = true
			l = append(l, trip(order[0]))
			continue
		}
		for i, d := range w.Net.Loads {
			if w.Given[i] != d.Power {
				l = append(l, shed(i, d.Power-w.Given[i]))
			}
		}
		for _, bus := range firsts {
			l = append(l, dark(bus))
		}
		return l
	}
}

// copied: a world in memory of its own.
func copied(w api.World) api.World {
	n := &w.Net
	n.Buses, n.Lines, n.Gens, n.Loads, n.Ties = slices.Clone(n.Buses), slices.Clone(n.Lines), slices.Clone(n.Gens), slices.Clone(n.Loads), slices.Clone(n.Ties)
	w.Out, w.On, w.Plan, w.Given, w.Log = slices.Clone(w.Out), slices.Clone(w.On), slices.Clone(w.Plan), slices.Clone(w.Given), slices.Clone(w.Log)
	return w
}

// toldStep: the tests' own Step of a world that may be.
func toldStep(w api.World, v api.Event) (api.World, api.Errno) {
	w = copied(w)
	n := w.Net
	things := map[int]int{api.Fails: len(n.Lines), api.Mend: len(n.Lines), api.Switch: len(n.Ties), api.Draw: len(n.Loads), api.Start: len(n.Gens)}
	most := map[int]int{api.Switch: 1, api.Start: 1, api.Draw: api.MaxPower}
	if _, known := things[v.Kind]; !known {
		return api.World{}, api.ErrKind
	}
	if v.At < 0 || v.At >= things[v.Kind] || v.To < 0 || v.To > most[v.Kind] {
		return api.World{}, api.ErrRange
	}
	if w.Now == 1000000000 {
		return api.World{}, api.ErrEnd
	}
	switch v.Kind {
	case api.Fails, api.Mend:
		w.Out[v.At] = v.Kind == api.Fails
	case api.Switch:
		n.Ties[v.At].Closed = v.To != 0
	case api.Draw:
		n.Loads[v.At].Power = v.To
	case api.Start:
		w.On[v.At] = v.To != 0
	}
	w.Now++
	w.Log = append(w.Log, entries(w.Now, append([]api.Event{v}, toldSettle(&w)...)...)...)
	w.Log = w.Log[max(0, len(w.Log)-api.MaxLog):]
	return w, api.OK
}

// toldWake: the tests' own Wake: buses in the order of their shortest ways, by chapter 3.
func toldWake(w api.World, black []bool) []int {
	const far = 1000
	hops := slices.Repeat([]int{far}, len(w.Net.Buses))
	for bus := range hops {
		for i, g := range w.Net.Gens {
			if way, e := bars.Way(w.Net, w.Out, g.Bus, bus); black[i] && w.On[i] && e == api.OK {
				hops[bus] = min(hops[bus], len(way))
			}
		}
	}
	var l []int
	for h := range far {
		for bus := range hops {
			if hops[bus] == h {
				l = append(l, bus)
			}
		}
	}
	return l
}

// drawn: a network of at most so many buses, lines and others; powers are below most.
func drawn(d *rand.Rand, buses, lines, others, most int) api.Net {
	b := 2 + d.IntN(buses-1)
	between := func(count int) []wire {
		l := make([]wire, d.IntN(count+1))
		for i := range l {
			x := d.IntN(b)
			l[i] = wire{x, (x + 1 + d.IntN(b-1)) % b, 1 + d.IntN(9), d.IntN(most)}
		}
		return l
	}
	n := network(b, between(lines), between(others))
	for i := range n.Ties {
		n.Ties[i].Closed = d.IntN(2) == 0
	}
	var gens []gen
	for range d.IntN(others + 1) {
		least := d.IntN(most) / 4
		gens = append(gens, gen{d.IntN(b), least, least + d.IntN(most)})
	}
	var loads []load
	for range d.IntN(others + 1) {
		loads = append(loads, load{d.IntN(b), d.IntN(most) / 2})
	}
	return with(n, gens, loads)
}

// drawnFlags: so many, one in some is true.
func drawnFlags(d *rand.Rand, count, some int) []bool {
	l := make([]bool, count)
	for i := range l {
		l[i] = d.IntN(some) == 0
	}
	return l
}

// drawnWorld: one that may be, settled or not.
func drawnWorld(d *rand.Rand, n api.Net) api.World {
	w := api.World{Net: n, Out: drawnFlags(d, len(n.Lines), 4), On: drawnFlags(d, len(n.Gens), 2), Now: d.IntN(1000)}
	for i, g := range n.Gens {
		w.Plan = append(w.Plan, 0)
		if w.On[i] && d.IntN(4) > 0 {
			w.Plan[i] = g.Least + d.IntN(g.Most-g.Least+1)
		}
	}
	for _, l := range n.Loads {
		w.Given = append(w.Given, d.IntN(l.Power+1))
	}
	w.Log = make([]api.Entry, d.IntN(api.MaxLog+1))
	for i := range w.Log {
		w.Log[i] = api.Entry{Now: d.IntN(9), Event: event(d.IntN(9), d.IntN(9), d.IntN(9))}
	}
	return w
}

// drawnEvent: one that may happen, if there is such a thing; or, one in some, not.
func drawnEvent(d *rand.Rand, most int) api.Event {
	v := event(1+d.IntN(5), d.IntN(5), 0)
	switch v.Kind {
	case api.Switch, api.Start:
		v.To = d.IntN(2)
	case api.Draw:
		v.To = d.IntN(most)
	}
	if d.IntN(20) == 0 {
		v = event(d.IntN(9), d.IntN(9)-1, d.IntN(4)-1)
	}
	return v
}

// check a world against the tests' own ways; it answers what an event makes of it.
func check(t *testing.T, d *rand.Rand, w api.World, v api.Event) (api.World, api.Errno) {
	t.Helper()
	black := drawnFlags(d, len(w.Net.Gens), 2)
	if l, e := works.Wake(w, black); e != api.OK || !slices.Equal(l, toldWake(w, black)) {
		t.Fatalf("Wake(%+v, %v): %v, %d; %v is wanted", w, black, l, e, toldWake(w, black))
	}
	flows := toldFlows(w)
	if l, e := works.Flows(w); flows == nil && (e != api.ErrSum || len(l) > 0) || flows != nil && (e != api.OK || len(l) != len(flows)) {
		t.Fatalf("Flows(%+v): %v, %d; %v is wanted", w, l, e, flows)
	} else {
		for i, f := range l {
			if f != flows[i].RatString() {
				t.Fatalf("Flows(%+v): %v; %v is wanted", w, l, flows)
			}
		}
	}
	x, e := works.Step(w, v)
	if want, f := toldStep(w, v); e != f || !alike(x, want) {
		t.Fatalf("Step(%+v, %v): %+v, %d; %+v, %d is wanted", w, v, x, e, want, f)
	}
	return x, e
}

// P16.1 to P16.6: drawn networks, event by event, held against the tests' own ways.
func TestDrawn(t *testing.T) {
	d := rand.New(rand.NewPCG(16, 1))
	count := map[int]int{} // of each kind how often it was told
	for range 400 {
		n := drawn(d, 6, 9, 4, 60)
		want := api.World{Net: n, Out: make([]bool, len(n.Lines)), On: all(true, len(n.Gens))}
		want.Log = entries(0, toldSettle(&want)...)
		w := begun(t, n)
		wantWorld(t, w, want)
		for range 8 {
			if x, e := check(t, d, w, drawnEvent(d, 60)); e == api.OK {
				w = x
			}
		}
		for _, l := range w.Log {
			count[l.Event.Kind]++
		}
	}
	for kind := api.Fails; kind <= api.Dark; kind++ {
		if count[kind] < 50 {
			t.Errorf("kind %d was told %d times", kind, count[kind])
		}
	}
}

// P16.3 to P16.6: worlds that may be, settled or not, held against the tests' own ways.
func TestDrawnWorlds(t *testing.T) {
	d := rand.New(rand.NewPCG(16, 3))
	for range 400 {
		w := drawnWorld(d, drawn(d, 6, 9, 4, 60))
		check(t, d, w, drawnEvent(d, 60))
	}
}
