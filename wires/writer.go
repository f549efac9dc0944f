package wires

import (
	"slices"
	"strconv"
	"strings"

	"gridworks/api"
)

// writer tells a network line by line; a builder's methods are its own.
type writer struct {
	strings.Builder
	buses []string
}

// tell whatever can be told of a network that may be or not; it gives up by a panic with an api.Errno.
func tell(n api.Net) string {
	w := writer{buses: n.Buses}
	w.line("net", n.Name)
	for _, name := range n.Buses {
		w.line("bus", name)
	}
	for _, l := range n.Lines {
		w.line("line", l.Name, w.bus(l.From), w.bus(l.To), strconv.Itoa(l.Worth), strconv.Itoa(l.Limit))
	}
	for _, g := range n.Gens {
		w.line("gen", g.Name, w.bus(g.Bus), strconv.Itoa(g.Least), strconv.Itoa(g.Most), strconv.Itoa(g.Cost))
	}
	for _, l := range n.Loads {
		w.line("load", l.Name, w.bus(l.Bus), strconv.Itoa(l.Power))
	}
	for _, t := range n.Ties {
		w.line("tie", t.Name, w.bus(t.From), w.bus(t.To), state(t.Closed))
	}
	return w.String()
}

func (w *writer) line(words ...string) {
	w.WriteString(strings.Join(words, " "))
	w.WriteByte('\n')
	if w.Len() > api.MaxText { // no network that may be has so long a text, and a list may go on and on
		panic(api.ErrState)
	}
}

func (w *writer) bus(place int) string {
	if place < 0 || place >= len(w.buses) {
		panic(api.ErrState)
	}
	return w.buses[place]
}

func state(closed bool) string {
	if closed {
		return "closed"
	}
	return "open"
}

func same(a, b api.Net) bool {
	return a.Name == b.Name &&
		slices.Equal(a.Buses, b.Buses) &&
		slices.Equal(a.Lines, b.Lines) &&
		slices.Equal(a.Gens, b.Gens) &&
		slices.Equal(a.Loads, b.Loads) &&
		slices.Equal(a.Ties, b.Ties)
}
