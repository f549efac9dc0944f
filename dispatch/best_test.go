package dispatch_test

import (
	"slices"
	"testing"

	"gridworks/api"
	"gridworks/dispatch"
)

// P8.3: the chapter's example.
func TestExample(t *testing.T) {
	n := example()
	wantBest(t, n, lacking(n), api.Deal{Power: l("10", "5"), Angles: l("0", "-10"), Flows: l("10"), Price: l("10", "30"), Rent: l("20"), Cost: "250"})
}

// P8.3: the same the other way round: flow and rent are below 0.
func TestOtherWay(t *testing.T) {
	n := example()
	n.Lines[0].From, n.Lines[0].To = 1, 0
	wantBest(t, n, lacking(n), api.Deal{Power: l("10", "5"), Angles: l("0", "-10"), Flows: l("-10"), Price: l("10", "30"), Rent: l("-20"), Cost: "250"})
}

// P8.3: a line that carries all has no rent, and prices are one.
func TestWideLine(t *testing.T) {
	n := example()
	n.Lines[0].Limit, n.Lines[0].Worth = 16, 5
	wantBest(t, n, lacking(n), api.Deal{Power: l("15", "0"), Angles: l("0", "-3"), Flows: l("15"), Price: l("10", "10"), Rent: l("0"), Cost: "150"})
	n.Lines[0].Limit = 15 // just enough: prices may be one or not
	wantCost(t, n, lacking(n), "150")
}

// P8.3: without the line each bus is its own island, and has its own price.
func TestLineOut(t *testing.T) {
	n := example()
	n.Loads = append(n.Loads, api.Load{Name: "e", Bus: 0, Power: 3})
	wantBest(t, n, lacking(n, 0), api.Deal{Power: l("3", "15"), Angles: l("0", "0"), Flows: l("0"), Price: l("10", "30"), Rent: l("0"), Cost: "480"})
}

// P8.3: who is cheaper comes first, up to its Most; who must generate does so whatever it costs.
func TestMeritOrder(t *testing.T) {
	n := with(network(1, nil, nil), []gen{{0, 0, 5, 30}, {0, 0, 4, 10}, {0, 2, 9, 50}, {0, 0, 7, 20}}, []load{{0, 8}, {0, 6}})
	wantBest(t, n, nil, api.Deal{Power: l("1", "4", "2", "7"), Angles: l("0"), Price: l("30"), Cost: "310"})
	n.Gens[2].Least = 3
	wantCost(t, n, nil, "330")
	n.Gens[2].Least = 4
	wantBest(t, n, nil, api.Deal{Power: l("0", "4", "4", "6"), Angles: l("0"), Price: l("20"), Cost: "360"})
}

// P8.3: chapter 4's triangle: where ways are parallel a full line holds back more than itself, and a third price comes of two costs.
func TestTriangle(t *testing.T) {
	gens, loads := []gen{{0, 0, 20, 10}}, []load{{2, 5}}
	n := with(triangle(10, 10, 10), gens, loads)
	wantBest(t, n, lacking(n), api.Deal{Power: l("5"), Angles: l("0", "-1", "-2"), Flows: l("1", "1", "4"), Price: l("10", "10", "10"), Rent: l("0", "0", "0"), Cost: "50"})
	n = with(triangle(10, 10, 4), []gen{{0, 0, 20, 10}, {2, 0, 20, 30}}, []load{{2, 9}})
	wantBest(t, n, lacking(n), api.Deal{Power: l("5", "4"), Angles: l("0", "-1", "-2"), Flows: l("1", "1", "4"), Price: l("10", "20", "30"), Rent: l("0", "0", "25"), Cost: "170"})
	n = with(triangle(10, 10, 4), []gen{{0, 0, 20, 10}, {1, 0, 20, 11}, {2, 0, 20, 30}}, []load{{2, 9}})
	wantBest(t, n, lacking(n), api.Deal{Power: l("1", "8", "0"), Angles: l("0", "3", "-2"), Flows: l("-3", "5", "4"), Price: l("10", "11", "12"), Rent: l("0", "0", "5/2"), Cost: "98"})
}

// P8.3: angles, flows and what is generated may be fractions, and prices too; to the last bit.
func TestFractions(t *testing.T) {
	n := with(triangle(1, 9, 9), []gen{{0, 0, 9, 1}, {1, 0, 9, 8}}, []load{{2, 9}})
	wantBest(t, n, lacking(n), api.Deal{Power: l("23/3", "4/3"), Angles: l("0", "-1", "-10/3"), Flows: l("1", "7/3", "20/3"), Price: l("1", "8", "10/3"), Rent: l("35/3", "0", "0"), Cost: "55/3"})
}

// P8.3: a price may be below 0: to draw more there would let more come from where it is cheap.
func TestPriceBelowNought(t *testing.T) {
	n := with(triangle(1, 9, 9), []gen{{0, 0, 20, 50}, {2, 0, 20, 1}}, []load{{0, 9}})
	wantBest(t, n, lacking(n), api.Deal{Power: l("4", "5"), Angles: l("0", "1", "2"), Flows: l("-1", "-1", "-4"), Price: l("50", "-97", "1"), Rent: l("-245", "0", "0"), Cost: "205"})
}

// P8.3: buses of one node have one angle and one price; a line within a node carries nothing, and has no rent.
func TestTies(t *testing.T) {
	n := with(network(3, []wire{{0, 2, 3, 0}, {0, 1, 2, 4}}, []wire{{2, 0, 0, 0}}), []gen{{2, 0, 9, 2}, {1, 0, 9, 8}}, []load{{1, 6}, {0, 1}})
	wantBest(t, n, lacking(n), api.Deal{Power: l("5", "2"), Angles: l("0", "-2", "0"), Flows: l("0", "4"), Price: l("2", "8", "2"), Rent: l("0", "6"), Cost: "26"})
	n.Ties[0].Closed = false // now the line of Limit 0 parts them
	wantCost(t, n, lacking(n), "56")
	n.Gens[0].Least = 1
	wantNone(t, n, lacking(n))
}

// P8.3: a line of Limit 0 lets nothing through, but joins angles.
func TestLimitNought(t *testing.T) {
	n := with(triangle(0, 10, 10), []gen{{0, 0, 20, 10}, {1, 0, 20, 40}}, []load{{2, 9}})
	wantBest(t, n, lacking(n), api.Deal{Power: l("6", "3"), Angles: l("0", "0", "-3"), Flows: l("0", "3", "6"), Price: l("10", "40", "20"), Rent: l("50", "0", "0"), Cost: "180"})
}

// P8.3: a generator whose Least is its Most has no choice, whatever the price.
func TestNoChoice(t *testing.T) {
	n := with(network(1, nil, nil), []gen{{0, 3, 3, 100}, {0, 0, 9, 5}, {0, 2, 2, 1}}, []load{{0, 6}})
	wantBest(t, n, nil, api.Deal{Power: l("3", "1", "2"), Angles: l("0"), Price: l("5"), Cost: "307"})
}

// P8.3: nothing can be: loads draw more than can be generated, or less than must be, or more than lines carry.
func TestNone(t *testing.T) {
	one := func(least, most, draws int) api.Net {
		return with(network(1, nil, nil), []gen{{0, least, most, 5}}, []load{{0, draws}})
	}
	wantCost(t, one(2, 6, 6), nil, "30")
	wantNone(t, one(2, 6, 7), nil)
	wantCost(t, one(2, 6, 2), nil, "10")
	wantNone(t, one(2, 6, 1), nil)
	wantNone(t, with(network(1, nil, nil), nil, []load{{0, 1}}), nil)
	wantCost(t, with(network(1, nil, nil), nil, []load{{0, 0}}), nil, "0")
	two := func(limit, draws int) api.Net {
		return with(network(2, []wire{{1, 0, 7, limit}}, nil), []gen{{0, 0, 50, 10}, {1, 0, 5, 30}}, []load{{1, draws}})
	}
	wantCost(t, two(10, 15), lacking(two(10, 15)), "250")
	wantNone(t, two(10, 16), lacking(two(10, 16)))
	wantNone(t, two(9, 15), lacking(two(9, 15)))
	wantNone(t, two(10, 6), lacking(two(10, 6), 0))
	wantCost(t, two(10, 5), lacking(two(10, 5), 0), "150")
}

// P8.3: lines hold one another back: they could carry all of it, but not as angles share it out.
func TestNoneByAngles(t *testing.T) {
	n := with(triangle(10, 10, 4), []gen{{0, 0, 20, 10}}, []load{{2, 6}})
	wantNone(t, n, lacking(n))
	n.Loads[0].Power = 5
	wantCost(t, n, lacking(n), "50")
	n.Loads[0].Power = 6
	wantCost(t, n, lacking(n, 2), "60") // without the line that is full all is well
}

// P8.3: one island that can't be served is enough.
func TestNoneElsewhere(t *testing.T) {
	n := with(network(4, []wire{{0, 1, 1, 9}, {2, 3, 1, 9}}, nil), []gen{{0, 0, 9, 1}, {2, 0, 9, 1}}, []load{{1, 9}, {3, 9}})
	wantCost(t, n, lacking(n), "18")
	n.Loads[1].Power = 10
	wantNone(t, n, lacking(n))
	n.Loads[1].Power, n.Loads[0].Power = 9, 10
	wantNone(t, n, lacking(n))
}

// P8.3: in a network of little all is nought.
func TestLittle(t *testing.T) {
	wantBest(t, api.Net{Name: "n"}, nil, api.Deal{Cost: "0"})
	d := best(t, network(2, nil, nil), nil)
	if d.None || d.Cost != "0" || !slices.Equal(d.Angles, l("0", "0")) || len(d.Power)+len(d.Flows)+len(d.Rent) != 0 {
		t.Errorf("%+v", d)
	}
	n := network(3, []wire{{0, 1, 1, 0}, {1, 2, 1, 5}}, nil)
	wantCost(t, n, lacking(n), "0")
	wantCost(t, n, lacking(n, 0, 1), "0")
	n = with(n, []gen{{1, 0, 9, 0}}, []load{{2, 4}})
	wantCost(t, n, lacking(n), "0")
}

// What holds everywhere: what is handed in stays as it is, spare room too, and each answer is memory of its own.
func TestOwnMemory(t *testing.T) {
	n := with(triangle(10, 10, 4), []gen{{0, 0, 20, 10}, {2, 0, 20, 30}}, []load{{2, 9}})
	room := []bool{false, false, false, true, false, true}
	out := room[:3]
	n.Lines = append(n.Lines, api.Line{Name: "spare"})[:3]
	n.Gens = append(n.Gens, api.Gen{Name: "spare"})[:2]
	n.Loads = append(n.Loads, api.Load{Name: "spare"})[:1]
	lines, gens, loads := slices.Clone(n.Lines[:4]), slices.Clone(n.Gens[:3]), slices.Clone(n.Loads[:2])
	kept := best(t, n, out)
	told := copied(kept)
	for range 2 {
		spoil(best(t, n, out))
		dispatch.Check(n, out, kept)
		if !same(kept, told) {
			t.Fatalf("changed: %+v, %+v", kept, told)
		}
	}
	d := best(t, n, out)
	spare := []*[]string{&d.Power, &d.Angles, &d.Flows, &d.Price, &d.Rent}
	for _, c := range spare {
		*c = append(*c, "spare")[:len(*c)]
	}
	wantCheck(t, n, out, d, true)
	for _, c := range spare {
		if (*c)[:len(*c)+1][len(*c)] != "spare" {
			t.Error("spare room is changed")
		}
	}
	if !slices.Equal(room, []bool{false, false, false, true, false, true}) || !slices.Equal(n.Lines[:4], lines) || !slices.Equal(n.Gens[:3], gens) || !slices.Equal(n.Loads[:2], loads) {
		t.Errorf("changed: %v, %+v", room, n)
	}
}

// spoil all of a deal, its spare room too; whatever of it were shared, would be spoilt with it.
func spoil(d api.Deal) {
	for _, c := range [][]string{d.Power, d.Angles, d.Flows, d.Price, d.Rent} {
		clear(c[:cap(c)])
	}
}

// What holds everywhere: of one answer no two lists share memory.
func TestListsApart(t *testing.T) {
	n := example()
	for _, none := range []bool{false, true} {
		if none {
			n.Loads[0].Power = 1000
		}
		d := best(t, n, lacking(n))
		lists := []*[]string{&d.Power, &d.Angles, &d.Flows, &d.Price, &d.Rent}
		for i, c := range lists {
			room := (*c)[:cap(*c)]
			for k := range room {
				room[k] = "mark"
			}
			for k, other := range lists {
				if k > i && slices.Contains(*other, "mark") {
					t.Errorf("lists %d and %d share memory: %+v", i, k, d)
				}
			}
		}
	}
}
