package wires_test

import (
	"reflect"
	"slices"
	"strconv"
	"strings"
	"testing"

	"gridworks/api"
	"gridworks/wires"
)

// text of lines, behind a net and two buses.
func text(lines ...string) string {
	return strings.Join(append([]string{"net n", "bus x", "bus y"}, lines...), "\n")
}

// must be read.
func must(t *testing.T, s string) api.Net {
	t.Helper()
	n, f := wires.Read(s)
	if f != (api.Fault{}) {
		t.Fatalf("Read(%.200q): fault %+v", s, f)
	}
	return n
}

// refused: whether a text has this fault, and gives no network beside it.
func refused(t *testing.T, s string, code api.Errno, at int) {
	t.Helper()
	n, f := wires.Read(s)
	if f != (api.Fault{Code: code, At: at}) {
		t.Errorf("Read(%.200q): fault %+v; %d at %d is wanted", s, f, code, at)
	}
	if f.Code != api.OK && !reflect.ValueOf(n).IsZero() {
		t.Errorf("Read(%.200q): %+v beside fault %+v", s, n, f)
	}
}

// equal: whether both are one network; a list without elements may be nil or not.
func equal(a, b api.Net) bool {
	return a.Name == b.Name && slices.Equal(a.Buses, b.Buses) && slices.Equal(a.Lines, b.Lines) &&
		slices.Equal(a.Gens, b.Gens) && slices.Equal(a.Loads, b.Loads) && slices.Equal(a.Ties, b.Ties)
}

// copied: a network whose lists are its own.
func copied(n api.Net) api.Net {
	n.Buses, n.Lines, n.Gens = slices.Clone(n.Buses), slices.Clone(n.Lines), slices.Clone(n.Gens)
	n.Loads, n.Ties = slices.Clone(n.Loads), slices.Clone(n.Ties)
	return n
}

// full: as many of each kind as may be, with names as long and numbers as great as may be.
func full() api.Net {
	name := func(kind string, i int) string {
		s := kind + strconv.Itoa(i)
		return s + strings.Repeat("ÿ", api.MaxName-len(s))
	}
	n := api.Net{Name: strings.Repeat("É", api.MaxName)}
	for i := range api.MaxBuses {
		n.Buses = append(n.Buses, name("b", i))
	}
	for i := range api.MaxLines {
		n.Lines = append(n.Lines, api.Line{Name: name("l", i), From: i % api.MaxBuses, To: (i + 1) % api.MaxBuses, Worth: api.MaxWorth, Limit: api.MaxPower})
	}
	for i := range api.MaxGens {
		n.Gens = append(n.Gens, api.Gen{Name: name("g", i), Bus: i % api.MaxBuses, Least: api.MaxPower, Most: api.MaxPower, Cost: api.MaxCost})
	}
	for i := range api.MaxLoads {
		n.Loads = append(n.Loads, api.Load{Name: name("d", i), Bus: i % api.MaxBuses, Power: api.MaxPower})
	}
	for i := range api.MaxTies {
		n.Ties = append(n.Ties, api.Tie{Name: name("t", i), From: (i + 3) % api.MaxBuses, To: i % api.MaxBuses, Closed: i%2 == 0})
	}
	return n
}

// small: some of each kind.
func small() api.Net {
	return api.Net{
		Name:  "town",
		Buses: []string{"x", "y", "z"},
		Lines: []api.Line{{Name: "a", From: 0, To: 1, Worth: 1, Limit: 10}, {Name: "b", From: 2, To: 0, Worth: 20, Limit: 0}},
		Gens:  []api.Gen{{Name: "g", Bus: 2, Least: 5, Most: 70, Cost: 30}, {Name: "h", Bus: 0}},
		Loads: []api.Load{{Name: "d", Bus: 1, Power: 8}, {Name: "e", Bus: 1}},
		Ties:  []api.Tie{{Name: "s", From: 1, To: 2, Closed: true}, {Name: "t", From: 2, To: 1}},
	}
}

// smallText: what Show tells of small.
const smallText = "net town\nbus x\nbus y\nbus z\nline a x y 1 10\nline b z x 20 0\n" +
	"gen g z 5 70 30\ngen h x 0 0 0\nload d y 8\nload e y 0\ntie s y z closed\ntie t z y open\n"
