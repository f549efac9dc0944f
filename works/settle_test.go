package works_test

import (
	"testing"

	"gridworks/api"
)

// DOC.md's example of the whole, event by event.
func TestExample(t *testing.T) {
	n := triangle(10, 10, 10, 5)
	w := begun(t, n)
	wantWorld(t, w, api.World{Net: n, Out: flags("000"), On: flags("1"), Plan: []int{5}, Given: []int{5}})
	wantFlows(t, w, "1", "1", "4")
	w = wantStep(t, w, event(api.Fails, 2, 0), "001", []int{5}, []int{5})
	wantFlows(t, w, "5", "5", "0")
	w = wantStep(t, w, event(api.Draw, 0, 12), "101", []int{0}, []int{0}, trip(0), shed(0, 12), dark(1))
	wantFlows(t, w, "0", "0", "0")
	n.Loads[0].Power = 12
	log := append(entries(1, event(api.Fails, 2, 0)), entries(2, event(api.Draw, 0, 12), trip(0), shed(0, 12), dark(1))...)
	wantWorld(t, w, api.World{Net: n, Out: flags("101"), On: flags("1"), Plan: []int{0}, Given: []int{0}, Now: 2, Log: log})
}

// P16.1: each generator that is on generates Least, and a part of what more is given, by Most less Least.
func TestParts(t *testing.T) {
	same := []gen{{0, 0, 10}, {0, 0, 10}, {0, 0, 10}}
	wantBegin(t, single(same, 10), "", []int{4, 3, 3}, []int{10})
	wantBegin(t, single(same, 3, 8), "", []int{4, 4, 3}, []int{3, 8})
	wantBegin(t, single(same, 0), "", []int{0, 0, 0}, []int{0})
	wantBegin(t, single(same), "", []int{0, 0, 0}, nil)
	other := []gen{{0, 10, 20}, {0, 0, 10}, {0, 5, 35}} // what more: by 10, 10 and 30
	wantBegin(t, single(other, 15), "", []int{10, 0, 5}, []int{15})
	wantBegin(t, single(other, 17), "", []int{11, 0, 6}, []int{17})
	wantBegin(t, single(other, 25), "", []int{12, 2, 11}, []int{25})
	wantBegin(t, single(other, 64), "", []int{20, 10, 34}, []int{64})
	wantBegin(t, single(other, 65), "", []int{20, 10, 35}, []int{65})
}

// P16.1: generators whose Most is Least generate just that, alone or beside others.
func TestNoRoom(t *testing.T) {
	fixed := []gen{{0, 7, 7}, {0, 3, 3}}
	wantBegin(t, single(fixed, 10), "", []int{7, 3}, []int{10})
	wantBegin(t, single(fixed, 12), "", []int{7, 3}, []int{10}, shed(0, 2))
	wantBegin(t, single(fixed, 9), "", []int{0, 0}, []int{0}, shed(0, 9), dark(0))
	wantBegin(t, single([]gen{{0, 7, 7}, {0, 0, 5}}, 9), "", []int{7, 2}, []int{9})
	wantBegin(t, single([]gen{{0, 0, 0}}, 5), "", []int{0}, []int{0}, shed(0, 5))
	wantBegin(t, single([]gen{{0, 0, 0}}, 0), "", []int{0}, []int{0})
}

// P16.1: if more is drawn than Most, the last load is given less, then the one ahead of it.
func TestLacks(t *testing.T) {
	ten := []gen{{0, 2, 6}, {0, 0, 4}}
	most := []int{6, 4}
	wantBegin(t, single(ten, 4, 3, 3), "", most, []int{4, 3, 3})
	wantBegin(t, single(ten, 4, 3, 4), "", most, []int{4, 3, 3}, shed(2, 1))
	wantBegin(t, single(ten, 4, 6, 3), "", most, []int{4, 6, 0}, shed(2, 3))
	wantBegin(t, single(ten, 4, 7, 3), "", most, []int{4, 6, 0}, shed(1, 1), shed(2, 3))
	wantBegin(t, single(ten, 10, 7, 3), "", most, []int{10, 0, 0}, shed(1, 7), shed(2, 3))
	wantBegin(t, single(ten, 13, 7, 3), "", most, []int{10, 0, 0}, shed(0, 3), shed(1, 7), shed(2, 3))
	wantBegin(t, single(ten, 4, 9, 0), "", most, []int{4, 6, 0}, shed(1, 3))
	wantBegin(t, single(ten, 4, 0, 9), "", most, []int{4, 0, 6}, shed(2, 3))
}

// P16.1: an island is dark without a generator that is on, or if less is drawn than Least; with one, and 0 drawn, it is not.
func TestDark(t *testing.T) {
	wantBegin(t, single(nil, 5), "", nil, []int{0}, shed(0, 5), dark(0))
	wantBegin(t, single(nil, 0), "", nil, []int{0}, dark(0))
	wantBegin(t, single(nil), "", nil, nil, dark(0))
	two := []gen{{0, 4, 9}, {0, 3, 9}}
	wantBegin(t, single(two, 4, 2), "", []int{0, 0}, []int{0, 0}, shed(0, 4), shed(1, 2), dark(0))
	wantBegin(t, single(two, 4, 3), "", []int{4, 3}, []int{4, 3})
	w := begun(t, single(two, 4, 2))
	w = wantStep(t, w, event(api.Start, 0, 0), "", []int{0, 6}, []int{4, 2})
	w = wantStep(t, w, event(api.Start, 1, 0), "", []int{0, 0}, []int{0, 0}, shed(0, 4), shed(1, 2), dark(0))
	wantStep(t, w, event(api.Start, 0, 1), "", []int{6, 0}, []int{4, 2})
}

// P16.1: islands are fed each for itself; loads are told in their order, dark islands by their numbers, with their first buses.
func TestIslands(t *testing.T) {
	lines := []wire{{4, 2, 1, 50}, {3, 1, 1, 50}}
	gens := []gen{{2, 0, 10}, {1, 5, 8}, {4, 0, 30}, {3, 1, 4}}
	loads := []load{{3, 6}, {5, 7}, {4, 25}, {1, 7}, {0, 0}, {2, 20}}
	n := with(network(6, lines, nil), gens, loads)
	wantBegin(t, n, "00", []int{10, 8, 30, 4}, []int{6, 0, 25, 6, 0, 15}, shed(1, 7), shed(3, 1), shed(5, 5), dark(0), dark(5))
	n.Loads[0].Power, n.Loads[3].Power = 3, 2
	wantBegin(t, n, "00", []int{10, 0, 30, 0}, []int{0, 0, 25, 0, 0, 15}, shed(0, 3), shed(1, 7), shed(3, 2), shed(5, 5), dark(0), dark(1), dark(5))
	n.Gens[2].Least, n.Gens[0].Least = 30, 10
	n.Loads[5].Power = 15
	wantBegin(t, n, "00", []int{10, 0, 30, 0}, []int{0, 0, 25, 0, 0, 15}, shed(0, 3), shed(1, 7), shed(3, 2), dark(0), dark(1), dark(5))
}

// parallel lines between two buses, all of Worth 1, with these Limits; so much is generated at one end, and drawn at the other.
func parallel(power int, limits ...int) api.Net {
	var lines []wire
	for i, l := range limits {
		lines = append(lines, wire{i % 2, 1 - i%2, 1, l}) // every second one is told the other way round
	}
	return with(network(2, lines, nil), []gen{{0, 0, 100}}, []load{{1, power}})
}

// P16.1: a line may carry its Limit, but no more, either way; the one that carries most more trips, of several the first one.
func TestTrips(t *testing.T) {
	wantBegin(t, parallel(30, 10, 10, 10), "000", []int{30}, []int{30})
	wantBegin(t, parallel(30, 9, 15, 15), "100", []int{30}, []int{30}, trip(0))
	wantBegin(t, parallel(30, 15, 9, 15), "010", []int{30}, []int{30}, trip(1))
	wantBegin(t, parallel(30, 9, 8, 15), "111", []int{0}, []int{0}, trip(1), trip(0), trip(2), shed(0, 30), dark(1))
	wantBegin(t, parallel(30, 9, 8, 30), "110", []int{30}, []int{30}, trip(1), trip(0))
	wantBegin(t, parallel(30, 9, 9, 30), "110", []int{30}, []int{30}, trip(0), trip(1))
	wantBegin(t, parallel(30, 30, 9, 9), "011", []int{30}, []int{30}, trip(1), trip(2))
	wantBegin(t, parallel(30, 9, 9, 9), "111", []int{0}, []int{0}, trip(0), trip(1), trip(2), shed(0, 30), dark(1))
}

// P16.1: what counts is how much more a line carries, not how many times its Limit; nor how much it carries, nor how its text is compared.
func TestMostMore(t *testing.T) {
	between := func(power int, lines ...wire) api.Net {
		return with(network(2, lines, nil), []gen{{0, 0, 100}}, []load{{1, power}})
	}
	wantBegin(t, between(40, wire{0, 1, 1, 5}, wire{0, 1, 3, 24}), "11", []int{0}, []int{0}, trip(1), trip(0), shed(0, 40), dark(1))
	wantBegin(t, between(40, wire{0, 1, 1, 4}, wire{0, 1, 3, 25}), "11", []int{0}, []int{0}, trip(0), trip(1), shed(0, 40), dark(1))
	wantBegin(t, between(1, wire{0, 1, 1, 0}, wire{0, 1, 1, 1}, wire{0, 1, 1, 1}), "100", []int{1}, []int{1}, trip(0))
	wantBegin(t, between(1, wire{0, 1, 1, 0}, wire{1, 0, 2, 0}, wire{0, 1, 1, 1}), "110", []int{1}, []int{1}, trip(1), trip(0))
	wantBegin(t, between(19, wire{0, 1, 9, 0}, wire{0, 1, 10, 0}, wire{0, 1, 1000, 19}), "110", []int{19}, []int{19}, trip(1), trip(0))
	wantBegin(t, between(7, wire{0, 1, 1, 2}, wire{0, 1, 1, 1}, wire{0, 1, 1, 7}), "110", []int{7}, []int{7}, trip(1), trip(0))
}

// P16.1: after a trip the islands are fed anew: what was one is two, each with its own generators and loads, and what was lacking need not lack any more.
func TestFedAnew(t *testing.T) {
	n := with(network(2, []wire{{0, 1, 1, 5}}, nil), []gen{{0, 0, 30}, {1, 0, 10}}, []load{{0, 4}, {1, 16}})
	wantBegin(t, n, "1", []int{4, 10}, []int{4, 10}, trip(0), shed(1, 6))
	n.Loads[1].Power = 8
	wantBegin(t, n, "0", []int{9, 3}, []int{4, 8})
	n.Gens[0].Least, n.Loads[1].Power = 9, 5
	wantBegin(t, n, "0", []int{9, 0}, []int{4, 5})
	n.Loads[1].Power = 6
	wantBegin(t, n, "1", []int{0, 6}, []int{0, 6}, trip(0), shed(0, 4), dark(0))
	n = with(network(2, []wire{{0, 1, 1, 5}}, nil), []gen{{0, 0, 8}}, []load{{1, 10}, {0, 3}})
	wantBegin(t, n, "1", []int{3}, []int{0, 3}, trip(0), shed(0, 10), dark(1))
	n = with(network(3, []wire{{0, 1, 1, 5}, {1, 2, 1, 9}}, nil), []gen{{0, 0, 20}, {1, 6, 10}}, []load{{2, 9}, {0, 1}})
	wantBegin(t, n, "00", []int{3, 7}, []int{9, 1})
	n.Lines[1].Limit = 8
	wantBegin(t, n, "01", []int{0, 0}, []int{0, 0}, trip(1), shed(0, 9), shed(1, 1), dark(0), dark(2))
}

// P16.1: lines trip one at a time, those of all islands together.
func TestTripsOfIslands(t *testing.T) {
	lines := []wire{{0, 1, 1, 7}, {2, 3, 1, 6}, {2, 3, 1, 7}, {4, 5, 1, 9}}
	n := with(network(6, lines, nil), []gen{{0, 0, 9}, {2, 0, 30}, {5, 0, 9}}, []load{{1, 9}, {3, 18}, {4, 9}})
	wantBegin(t, n, "1110", []int{0, 0, 9}, []int{0, 0, 9}, trip(1), trip(2), trip(0), shed(0, 9), shed(1, 18), dark(1), dark(3))
}

// P16.1: closed ties make one node, whose lines carry nothing; open ones join nothing.
func TestTies(t *testing.T) {
	n := with(network(3, []wire{{0, 1, 1, 0}, {1, 2, 1, 5}}, []wire{{0, 1, 0, 0}}), []gen{{0, 0, 9}}, []load{{2, 5}})
	wantBegin(t, n, "00", []int{5}, []int{5})
	w := wantStep(t, begun(t, n), event(api.Fails, 0, 0), "10", []int{5}, []int{5})
	wantStep(t, w, event(api.Switch, 0, 0), "10", []int{0}, []int{0}, shed(0, 5), dark(1))
	n.Ties[0].Closed = false
	wantBegin(t, n, "10", []int{0}, []int{0}, trip(0), shed(0, 5), dark(1))
}
