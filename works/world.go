package works

import (
	"gridworks/api"
	"gridworks/wires"
)

// maxNow: when a world's time ends.
const maxNow = 1000000000

// world at work: beside the plain one, what is known of its islands since they were fed.
type world struct {
	api.World
	islands []int  // of each bus
	dark    []bool // of each island
}

// atWork: a world that may be, in memory of its own, so that what was handed in stays as it is.
func atWork(w api.World) *world {
	w.Net = anew(w.Net)
	w.Out, w.On = own(w.Out), own(w.On)
	w.Plan, w.Given = own(w.Plan), own(w.Given)
	w.Log = own(w.Log)
	return &world{World: w}
}

// anew: a network that may be, as its text tells it: so its names are new memory, too.
func anew(n api.Net) api.Net {
	s, _ := wires.Show(n)
	n, _ = wires.Read(s)
	return n
}

func own[T any](l []T) []T { return append([]T(nil), l...) }

func mayBe(w api.World) bool {
	return wires.May(w.Net) && len(w.Out) == len(w.Net.Lines) && planned(w) && givenWell(w) &&
		within(w.Now, 0, maxNow) && len(w.Log) <= api.MaxLog
}

// planned: does each generator generate nothing, or what it can while it is on?
func planned(w api.World) bool {
	if len(w.On) != len(w.Net.Gens) || len(w.Plan) != len(w.Net.Gens) {
		return false
	}
	for i, g := range w.Net.Gens {
		if w.Plan[i] != 0 && !(w.On[i] && within(w.Plan[i], g.Least, g.Most)) {
			return false
		}
	}
	return true
}

// givenWell: is each load given no more than it draws?
func givenWell(w api.World) bool {
	if len(w.Given) != len(w.Net.Loads) {
		return false
	}
	for i, l := range w.Net.Loads {
		if !within(w.Given[i], 0, l.Power) {
			return false
		}
	}
	return true
}

// within: is it from least to most?
func within(x, least, most int) bool { return least <= x && x <= most }

// note what happens in the log, of which the last entries are kept.
func (w *world) note(e api.Event) {
	if len(w.Log) == api.MaxLog {
		w.Log = w.Log[1:]
	}
	w.Log = append(w.Log, api.Entry{Now: w.Now, Event: e})
}
