package works

import (
	"slices"
	"strconv"
	"strings"

	"gridworks/api"
	"gridworks/bars"
	"gridworks/exact"
	"gridworks/flow"
)

// noLine: in a line's place: there is none.
const noLine = -1

// settle ends, since each time one line more is out.
func (w *world) settle() {
	w.feed()
	for line := w.overloaded(); line != noLine; line = w.overloaded() {
		w.Out[line] = true
		w.note(api.Event{Kind: api.Trip, At: line})
		w.feed()
	}
	w.tell()
}

// feed all islands anew, whatever was generated and given ahead.
func (w *world) feed() {
	w.islands, _ = bars.Islands(w.Net, w.Out)
	w.dark = nil
	clear(w.Plan)
	clear(w.Given)
	for island := 0; slices.Contains(w.islands, island); island++ {
		w.dark = append(w.dark, !w.light(island))
	}
}

// light an island, unless it has to be dark: then it answers false, and nothing is generated and given there.
func (w *world) light(island int) bool {
	gens, loads := w.gensOn(island), w.loadsAt(island)
	least, most, drawn := 0, 0, 0
	for _, i := range gens {
		least += w.Net.Gens[i].Least
		most += w.Net.Gens[i].Most
	}
	for _, i := range loads {
		drawn += w.Net.Loads[i].Power
	}
	if len(gens) == 0 || drawn < least {
		return false
	}
	given := min(drawn, most)
	w.give(loads, drawn-given)
	w.generate(gens, given-least)
	return true
}

// gensOn: the generators of an island that are on.
func (w *world) gensOn(island int) []int {
	var l []int
	for i, g := range w.Net.Gens {
		if w.On[i] && w.islands[g.Bus] == island {
			l = append(l, i)
		}
	}
	return l
}

func (w *world) loadsAt(island int) []int {
	var l []int
	for i, d := range w.Net.Loads {
		if w.islands[d.Bus] == island {
			l = append(l, i)
		}
	}
	return l
}

// give loads what they draw, but for what lacks, which is taken from the last ones.
func (w *world) give(loads []int, lacks int) {
	for _, i := range slices.Backward(loads) {
		power := w.Net.Loads[i].Power
		w.Given[i] = max(power-lacks, 0)
		lacks -= power - w.Given[i]
	}
}

// generate Least, and so much more, shared by what each generator has room for. Where none has room there is no more, and Share, which then refuses, shares nothing.
func (w *world) generate(gens []int, more int) {
	rooms := make([]string, len(gens))
	for k, i := range gens {
		g := w.Net.Gens[i]
		w.Plan[i] = g.Least
		rooms[k] = strconv.Itoa(g.Most - g.Least)
	}
	shares, _ := exact.Share(more, rooms)
	for k, share := range shares {
		w.Plan[gens[k]] += share
	}
}

// overloaded: the line that carries most more than its Limit; of several the first one. (Even the greatest network's flows have less than 200 bytes: exact takes them all.)
func (w *world) overloaded() int {
	carried, _ := flows(w.World) // each island was fed what it is given
	line, most := noLine, "0"
	for i, f := range carried {
		more, _ := exact.Sub(strings.TrimPrefix(f, "-"), strconv.Itoa(w.Net.Lines[i].Limit))
		if c, _ := exact.Cmp(more, most); c > 0 {
			line, most = i, more
		}
	}
	return line
}

// flows over all lines, of what is generated and given. ErrSum: that is not the same in each island.
func flows(w api.World) ([]string, api.Errno) {
	feeds := make([]int, len(w.Net.Buses))
	for i, g := range w.Net.Gens {
		feeds[g.Bus] += w.Plan[i]
	}
	for i, d := range w.Net.Loads {
		feeds[d.Bus] -= w.Given[i]
	}
	told := make([]string, len(feeds))
	for bus, f := range feeds {
		told[bus] = strconv.Itoa(f)
	}
	s, e := flow.Solve(w.Net, w.Out, told)
	return s.Flows, e
}

// tell what lacks, and where it is dark.
func (w *world) tell() {
	for i, d := range w.Net.Loads {
		if lacks := d.Power - w.Given[i]; lacks > 0 {
			w.note(api.Event{Kind: api.Shed, At: i, To: lacks})
		}
	}
	for island, dark := range w.dark {
		if dark {
			w.note(api.Event{Kind: api.Dark, At: slices.Index(w.islands, island)})
		}
	}
}
