package works_test

import (
	"math"
	"slices"
	"testing"

	"gridworks/api"
)

// calm: a network without much to go wrong: two lines side by side, two ties, two generators, two loads.
func calm() api.Net {
	n := with(network(3, []wire{{0, 1, 1, 50}, {0, 1, 3, 50}}, []wire{{1, 2, 0, 0}, {0, 2, 0, 0}}), []gen{{0, 0, 20}, {1, 4, 24}}, []load{{1, 12}, {2, 4}})
	n.Ties[1].Closed = false
	return n
}

// P16.4: what each kind of event does, and that nothing else is changed.
func TestKinds(t *testing.T) {
	w := begun(t, calm())
	wantWorld(t, w, api.World{Net: calm(), Out: flags("00"), On: flags("11"), Plan: []int{6, 10}, Given: []int{12, 4}})
	want := func(v api.Event, change func(x *api.World)) {
		t.Helper()
		x := begun(t, calm())
		x.Now, x.Log = 1, entries(1, v)
		change(&x)
		wantWorld(t, stepped(t, w, v), x)
	}
	want(event(api.Fails, 0, 0), func(x *api.World) { x.Out[0] = true })
	want(event(api.Fails, 1, 0), func(x *api.World) { x.Out[1] = true })
	want(event(api.Switch, 1, 1), func(x *api.World) { x.Net.Ties[1].Closed = true })
	want(event(api.Switch, 0, 0), func(x *api.World) {
		x.Net.Ties[0].Closed, x.Plan, x.Given = false, []int{4, 8}, []int{12, 0}
		x.Log = append(x.Log, entries(1, shed(1, 4), dark(2))...)
	})
	want(event(api.Draw, 0, 0), func(x *api.World) { x.Net.Loads[0].Power, x.Plan, x.Given = 0, []int{0, 4}, []int{0, 4} })
	want(event(api.Draw, 1, 8), func(x *api.World) { x.Net.Loads[1].Power, x.Plan, x.Given = 8, []int{8, 12}, []int{12, 8} })
	want(event(api.Draw, 1, api.MaxPower), func(x *api.World) {
		x.Net.Loads[1].Power, x.Plan, x.Given = api.MaxPower, []int{20, 24}, []int{12, 32}
		x.Log = append(x.Log, entries(1, shed(1, api.MaxPower-32))...)
	})
	want(event(api.Start, 0, 0), func(x *api.World) { x.On[0], x.Plan = false, []int{0, 16} })
	want(event(api.Start, 1, 0), func(x *api.World) { x.On[1], x.Plan = false, []int{16, 0} })
}

// P16.4: an event happens also if it is so already: Now is one more, and there is an entry.
func TestSoAlready(t *testing.T) {
	w := begun(t, calm())
	plan, given := []int{6, 10}, []int{12, 4}
	w = wantStep(t, w, event(api.Mend, 1, 0), "00", plan, given)
	w = wantStep(t, w, event(api.Switch, 0, 1), "00", plan, given)
	w = wantStep(t, w, event(api.Switch, 1, 0), "00", plan, given)
	w = wantStep(t, w, event(api.Draw, 0, 12), "00", plan, given)
	w = wantStep(t, w, event(api.Start, 1, 1), "00", plan, given)
	w = wantStep(t, w, event(api.Fails, 0, 0), "10", plan, given)
	w = wantStep(t, w, event(api.Fails, 0, 0), "10", plan, given)
	w = wantStep(t, w, event(api.Start, 0, 0), "10", []int{0, 16}, given)
	w = wantStep(t, w, event(api.Start, 0, 0), "10", []int{0, 16}, given)
	if !alike(w.Net, calm()) || !slices.Equal(w.On, flags("01")) || w.Now != 9 || len(w.Log) != 9 {
		t.Error(w)
	}
}

// P16.4: what is undone is as it was; a line that tripped stays out until it is mended, and trips again if it carries too much.
func TestUndone(t *testing.T) {
	w := begun(t, parallel(30, 10, 20, 40))
	w = wantStep(t, w, event(api.Draw, 0, 33), "100", []int{33}, []int{33}, trip(0))
	w = wantStep(t, w, event(api.Draw, 0, 30), "100", []int{30}, []int{30})
	w = wantStep(t, w, event(api.Mend, 0, 0), "000", []int{30}, []int{30})
	w = wantStep(t, w, event(api.Fails, 2, 0), "111", []int{0}, []int{0}, trip(0), trip(1), shed(0, 30), dark(1))
	w = wantStep(t, w, event(api.Mend, 1, 0), "111", []int{0}, []int{0}, trip(1), shed(0, 30), dark(1))
	w = wantStep(t, w, event(api.Mend, 2, 0), "110", []int{30}, []int{30})
	w = wantStep(t, w, event(api.Start, 0, 0), "110", []int{0}, []int{0}, shed(0, 30), dark(0))
	w = wantStep(t, w, event(api.Mend, 1, 0), "100", []int{0}, []int{0}, shed(0, 30), dark(0))
	wantStep(t, w, event(api.Start, 0, 1), "100", []int{30}, []int{30})
}

// P16.4: what is out, on, generated and given ahead of the event is settled as it stands: Plan and Given anew, lines that carry too much then trip.
func TestStepOfUnsettled(t *testing.T) {
	w := sound() // line 0 is out, generator 1 off; bus 1 hangs at line 1; of what more is given 7 parts of 11 are 4, 4 parts 3
	w = wantStep(t, w, event(api.Mend, 1, 0), "10", []int{6, 0, 3}, []int{5, 4})
	w.Net.Lines[1].Limit = 0
	w = wantStep(t, w, event(api.Start, 1, 1), "11", []int{6, 0, 3}, []int{5, 4}, trip(1), dark(1))
	wantStep(t, w, event(api.Switch, 0, 0), "11", []int{4, 0, 4}, []int{4, 4}, shed(0, 1), dark(1))
}

// P16.4: kinds that are none of an event; those of other entries are none, either.
func TestOtherKinds(t *testing.T) {
	for _, w := range []api.World{begun(t, calm()), bend(func(w *api.World) { w.Now = 1000000000 }), begun(t, api.Net{Name: "n"})} {
		for _, kind := range []int{0, -1, api.Trip, api.Shed, api.Dark, 9, 1 << 32, 1<<32 + 1, math.MaxInt, math.MinInt} {
			noStep(t, w, event(kind, 0, 0), api.ErrKind)
			noStep(t, w, event(kind, -1, 0), api.ErrKind)
			noStep(t, w, event(kind, 0, -1), api.ErrKind)
		}
	}
}

// P16.4: things that there are not, be there others of that place or not; ahead of the end of time.
func TestNoSuchThing(t *testing.T) {
	n := with(network(2, slices.Repeat([]wire{{0, 1, 1, 9}}, 1), slices.Repeat([]wire{{0, 1, 0, 0}}, 2)), slices.Repeat([]gen{{0, 0, 9}}, 3), slices.Repeat([]load{{0, 1}}, 4))
	w := begun(t, n)
	late := begun(t, n)
	late.Now = 1000000000
	for kind, count := range map[int]int{api.Fails: 1, api.Mend: 1, api.Switch: 2, api.Start: 3, api.Draw: 4} {
		for _, at := range []int{-1, count, count + 1, 7, 1 << 32, math.MaxInt, math.MinInt} {
			noStep(t, w, event(kind, at, 0), api.ErrRange)
			noStep(t, late, event(kind, at, 0), api.ErrRange)
		}
		for at := range count {
			stepped(t, w, event(kind, at, 0))
			noStep(t, late, event(kind, at, 0), api.ErrEnd)
		}
		noStep(t, begun(t, api.Net{Name: "n"}), event(kind, 0, 0), api.ErrRange)
	}
}

// P16.4: To is 0, 0 or 1, or from 0 to MaxPower; ahead of the end of time.
func TestOtherTo(t *testing.T) {
	w, late := begun(t, calm()), begun(t, calm())
	late.Now = 1000000000
	for kind, most := range map[int]int{api.Fails: 0, api.Mend: 0, api.Switch: 1, api.Start: 1, api.Draw: api.MaxPower} {
		for _, to := range []int{-1, most + 1, 1 << 32, math.MaxInt, math.MinInt} {
			noStep(t, w, event(kind, 1, to), api.ErrRange)
			noStep(t, late, event(kind, 1, to), api.ErrRange)
		}
		stepped(t, w, event(kind, 1, most))
		noStep(t, late, event(kind, 1, most), api.ErrEnd)
	}
}

// P16.4: the last moment is 1000000000.
func TestEnd(t *testing.T) {
	w := begun(t, calm())
	w.Now = 999999998
	w = wantStep(t, w, event(api.Mend, 0, 0), "00", []int{6, 10}, []int{12, 4})
	w = wantStep(t, w, event(api.Draw, 1, 0), "00", []int{4, 8}, []int{12, 0})
	if w.Now != 1000000000 || w.Log[1].Now != 1000000000 {
		t.Error(w)
	}
	noStep(t, w, event(api.Draw, 1, 0), api.ErrEnd)
	wantFlows(t, w, "1", "3")
	wantWake(t, w, "10", 0, 1, 2)
}

// P16.4: of more than MaxLog entries the last ones are kept, those that were there ahead and those of one step.
func TestLastEntries(t *testing.T) {
	lines := slices.Repeat([]wire{{0, 1, 1, 0}}, api.MaxLines) // all trip, one by one
	loads := slices.Repeat([]load{{1, 3}}, api.MaxLoads)
	n := with(network(4, lines, nil), []gen{{0, 0, 100}}, loads)
	told := func(now int, v api.Event, trips int) []api.Entry {
		l := entries(now, v)
		for i := range trips {
			l = append(l, entries(now, trip(i))...)
		}
		for i := range loads {
			l = append(l, entries(now, shed(i, 3))...)
		}
		return append(l, entries(now, dark(1), dark(2), dark(3))...)
	}
	w := begun(t, n)
	log := told(0, api.Event{}, api.MaxLines)[1:]
	wantLog := func(w api.World) {
		t.Helper()
		if last := log[max(0, len(log)-100):]; !slices.Equal(w.Log, last) {
			t.Errorf("%v; %v is wanted", w.Log, last)
		}
	}
	wantLog(w)
	for i := range 8 {
		v := event(api.Mend, 0, 0)
		w = stepped(t, w, v)
		log = append(log, told(i+1, v, 1)...)
		wantLog(w)
	}
	clear(w.Out)
	v := event(api.Draw, 0, 3)
	log = append(log, told(9, v, api.MaxLines)...)
	wantLog(stepped(t, w, v))
}

// P16.4: a log that is full, and one that has room for one more.
func TestFullLog(t *testing.T) {
	for _, count := range []int{98, 99, 100} {
		w := begun(t, calm())
		for i := range count {
			w.Log = append(w.Log, api.Entry{Now: -i, Event: event(i, i, i)})
		}
		v := event(api.Draw, 0, 12)
		want := append(slices.Clone(w.Log), api.Entry{Now: 1, Event: v})
		if x := stepped(t, w, v); !slices.Equal(x.Log, want[max(0, len(want)-100):]) {
			t.Errorf("of %d: %v", count, x.Log)
		}
	}
}
