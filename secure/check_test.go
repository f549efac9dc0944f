package secure_test

import (
	"testing"

	"gridworks/api"
)

// P6.2: a triangle that is secure but for its only generator; then one whose line x-y carries too much when x-z goes out.
func TestCheck(t *testing.T) {
	gens, loads := []gen{{0, 0, 20}}, []load{{2, 5}}
	n := with(triangle(10, 10, 10), gens, loads)
	wantBreaches(t, n, lacking(n), []int{5}, lacks(0, "5"))
	n = with(triangle(4, 10, 10), gens, loads)
	wantBreaches(t, n, lacking(n), []int{5}, noLine(2, 0, "1"), lacks(0, "5"))
	n = with(triangle(0, 0, 0), gens, loads)
	wantBreaches(t, n, lacking(n), []int{5},
		whole(0, "1"), whole(1, "1"), whole(2, "4"),
		noLine(0, 2, "5"), noLine(1, 2, "5"), noLine(2, 0, "5"), noLine(2, 1, "5"), lacks(0, "5"))
}

// P6.2: where nothing is told, nothing goes wrong, whatever fails: two generators with room, and lines that carry all.
func TestSecure(t *testing.T) {
	n := with(triangle(10, 10, 10), []gen{{0, 0, 10}, {1, 0, 10}}, []load{{2, 8}})
	wantBreaches(t, n, lacking(n), []int{5, 3})
	wantBreaches(t, n, lacking(n), []int{2, 6})
}

// P6.2: a line may carry its Limit, but no more, either way; of what is more fractions are told.
func TestWhole(t *testing.T) {
	gens, loads := []gen{{0, 0, 9}, {0, 0, 9}}, []load{{1, 1}}
	lines := func(a, b, c int) api.Net {
		return with(network(2, []wire{{0, 1, 1, a}, {1, 0, 1, b}, {0, 1, 1, c}}, nil), gens, loads)
	}
	plan := []int{1, 0}
	n := lines(1, 1, 1)
	wantBreaches(t, n, lacking(n), plan, lacks(0, "1"))
	n = lines(0, 1, 1)
	wantBreaches(t, n, lacking(n), plan, whole(0, "1/3"), noLine(1, 0, "1/2"), noLine(2, 0, "1/2"), lacks(0, "1"))
	n = lines(1, 0, 1)
	wantBreaches(t, n, lacking(n), plan, whole(1, "1/3"), noLine(0, 1, "1/2"), noLine(2, 1, "1/2"), lacks(0, "1"))
	n = lines(0, 0, 0)
	wantBreaches(t, n, lacking(n, 0, 2), plan, whole(1, "1"), split(1), lacks(0, "1"))
	n.Lines[1].Limit = 1
	wantBreaches(t, n, lacking(n, 0, 2), plan, split(1), lacks(0, "1"))
}

// P6.2: over a line that is out nothing flows, and it can't go out once more.
func TestOutAlready(t *testing.T) {
	n := with(triangle(5, 4, 0), []gen{{0, 0, 20}, {0, 0, 20}}, []load{{2, 5}})
	wantBreaches(t, n, lacking(n, 2), []int{3, 2}, whole(1, "1"), split(0), split(1), noGen(0, 1, "1"), noGen(1, 1, "1"))
	n = with(triangle(5, 4, 0), []gen{{2, 0, 20}, {2, 0, 20}}, []load{{2, 5}})
	wantBreaches(t, n, lacking(n, 0, 1, 2), []int{3, 2})
}

// P6.2: if an island is split no more is told of that, whatever carries too much, here or elsewhere.
func TestSplit(t *testing.T) {
	lines := []wire{{0, 1, 1, 0}, {2, 3, 1, 0}, {2, 3, 1, 0}}
	n := with(network(4, lines, nil), []gen{{0, 0, 9}, {2, 0, 9}}, []load{{1, 2}, {3, 4}})
	wantBreaches(t, n, lacking(n), []int{2, 4},
		whole(0, "2"), whole(1, "2"), whole(2, "2"),
		split(0), noLine(1, 0, "2"), noLine(1, 2, "4"), noLine(2, 0, "2"), noLine(2, 1, "4"),
		lacks(0, "2"), lacks(1, "4"))
}

// P6.2: a line over which nothing flows splits its island, too.
func TestSplitOfNothing(t *testing.T) {
	n := network(3, []wire{{0, 1, 1, 9}, {2, 1, 1, 9}}, nil)
	wantBreaches(t, n, lacking(n), nil, split(0), split(1))
	wantBreaches(t, n, lacking(n, 0), nil, split(1))
	wantBreaches(t, n, lacking(n, 0, 1), nil)
}

// P6.2: a closed tie keeps an island whole, an open one does not; a line within one node carries nothing, and what went wrong ahead of it goes wrong without it.
func TestTies(t *testing.T) {
	n := with(network(3, []wire{{0, 1, 1, 0}, {1, 2, 1, 3}}, []wire{{0, 1, 0, 0}}), []gen{{0, 0, 9}, {1, 0, 9}}, []load{{2, 5}})
	wantBreaches(t, n, lacking(n), []int{5, 0}, whole(1, "2"), noLine(0, 1, "2"), split(1), lacks(0, "5"))
	wantBreaches(t, n, lacking(n), []int{4, 1}, whole(1, "2"), noLine(0, 1, "2"), split(1), noGen(0, 1, "2"), noGen(1, 1, "2"))
	n.Ties[0].Closed = false
	wantBreaches(t, n, lacking(n), []int{5, 0}, whole(0, "5"), whole(1, "2"), split(0), split(1), lacks(0, "5"))
}

// P6.2: the others take over in proportion to their rooms. Each generator's part is to be seen on a line of its own, whose Limit is 0.
func TestRooms(t *testing.T) {
	lines := []wire{{0, 3, 1, 0}, {1, 3, 1, 0}, {3, 2, 1, 0}}
	n := with(network(4, lines, nil), []gen{{0, 0, 10}, {1, 0, 20}, {2, 0, 40}}, []load{{3, 21}})
	wantBreaches(t, n, lacking(n), []int{4, 7, 10},
		whole(0, "4"), whole(1, "7"), whole(2, "10"), split(0), split(1), split(2),
		noGen(0, 1, "353/43"), noGen(0, 2, "550/43"), // 4 by rooms of 13 and 30: 7 + 52/43, 10 + 120/43
		noGen(1, 0, "31/6"), noGen(1, 2, "95/6"), // 7 by rooms of 6 and 30: 4 + 7/6, 10 + 35/6
		noGen(2, 0, "136/19"), noGen(2, 1, "263/19")) // 10 by rooms of 6 and 13: 4 + 60/19, 7 + 130/19
}

// P6.2: who generates nothing, who has no room, and who is of another island, takes over nothing.
func TestWhoTakesOver(t *testing.T) {
	lines := []wire{{0, 4, 1, 0}, {1, 4, 1, 0}, {2, 4, 1, 0}, {3, 4, 1, 0}}
	gens := []gen{{0, 0, 10}, {1, 0, 20}, {2, 0, 40}, {3, 0, 50}}
	n := with(network(5, lines, nil), gens, []load{{4, 30}})
	splits := func(on ...api.Breach) []api.Breach {
		return append(on, split(0), split(1), split(2), split(3))
	}
	wantBreaches(t, n, lacking(n), []int{4, 20, 0, 6}, append(splits(whole(0, "4"), whole(1, "20"), whole(3, "6")),
		noGen(0, 1, "20"), noGen(0, 3, "10"),
		noGen(1, 0, "32/5"), noGen(1, 3, "118/5"), // by rooms of 6 and 44
		noGen(3, 0, "10"), noGen(3, 1, "20"))...)
	n.Loads = []api.Load{{Name: "d", Bus: 4, Power: 24}, {Name: "f", Bus: 3, Power: 6}}
	wantBreaches(t, n, lacking(n, 3), []int{4, 20, 0, 6},
		whole(0, "4"), whole(1, "20"), split(0), split(1), split(2),
		noGen(0, -1, "4"), noGen(1, -1, "14"), noGen(3, -1, "6"))
}

// P6.2: rooms may be just what is lost; if they are one less, that lacks, and no line is told.
func TestJustEnough(t *testing.T) {
	lines := []wire{{0, 1, 1, 1}, {0, 1, 1, 1}}
	n := with(network(2, lines, nil), []gen{{0, 0, 6}, {0, 0, 6}, {1, 0, 7}}, []load{{1, 12}})
	wantBreaches(t, n, lacking(n), []int{4, 4, 4},
		whole(0, "3"), whole(1, "3"), noLine(0, 1, "7"), noLine(1, 0, "7"),
		noGen(0, 0, "9/5"), noGen(0, 1, "9/5"), noGen(1, 0, "9/5"), noGen(1, 1, "9/5"), noGen(2, 0, "5"), noGen(2, 1, "5"))
	n.Gens[2].Most = 6
	wantBreaches(t, n, lacking(n), []int{4, 4, 4},
		whole(0, "3"), whole(1, "3"), noLine(0, 1, "7"), noLine(1, 0, "7"),
		noGen(0, 0, "2"), noGen(0, 1, "2"), noGen(1, 0, "2"), noGen(1, 1, "2"), noGen(2, 0, "5"), noGen(2, 1, "5"))
	n.Gens[2].Most = 5
	wantBreaches(t, n, lacking(n), []int{4, 4, 4},
		whole(0, "3"), whole(1, "3"), noLine(0, 1, "7"), noLine(1, 0, "7"),
		lacks(0, "1"), lacks(1, "1"), noGen(2, 0, "5"), noGen(2, 1, "5"))
	n.Gens[0].Most, n.Gens[1].Most, n.Gens[2].Most = 4, 4, 4
	wantBreaches(t, n, lacking(n), []int{4, 4, 4},
		whole(0, "3"), whole(1, "3"), noLine(0, 1, "7"), noLine(1, 0, "7"), lacks(0, "4"), lacks(1, "4"), lacks(2, "4"))
}

// P6.2: a generator that generates nothing can't fail; one whose Least is above 0 may be off.
func TestOff(t *testing.T) {
	n := with(network(2, []wire{{0, 1, 1, 2}, {0, 1, 1, 2}}, nil), []gen{{0, 3, 9}, {1, 0, 9}}, nil)
	wantBreaches(t, n, lacking(n), []int{0, 0})
	n.Loads = []api.Load{{Name: "d", Bus: 1, Power: 4}}
	wantBreaches(t, n, lacking(n), []int{0, 4}, lacks(1, "4"))
	wantBreaches(t, n, lacking(n), []int{4, 0}, noLine(0, 1, "2"), noLine(1, 0, "2"), lacks(0, "4"))
}

// P6.2: who takes over at the same bus, or at one of the same node, changes nothing of what flows.
func TestSameBus(t *testing.T) {
	n := with(network(3, []wire{{0, 1, 1, 2}, {2, 1, 1, 2}}, []wire{{0, 2, 0, 0}}), []gen{{0, 0, 9}, {0, 0, 9}, {2, 0, 9}}, []load{{1, 5}})
	wantBreaches(t, n, lacking(n), []int{2, 1, 2},
		whole(0, "1/2"), whole(1, "1/2"), noLine(0, 1, "3"), noLine(1, 0, "3"),
		noGen(0, 0, "1/2"), noGen(0, 1, "1/2"), noGen(1, 0, "1/2"), noGen(1, 1, "1/2"), noGen(2, 0, "1/2"), noGen(2, 1, "1/2"))
}

// P6.2: in a network of little nothing goes wrong.
func TestLittle(t *testing.T) {
	wantBreaches(t, api.Net{Name: "n"}, nil, nil)
	wantBreaches(t, api.Net{Name: "n"}, []bool{}, []int{})
	wantBreaches(t, network(2, nil, nil), nil, nil)
	n := with(network(1, nil, nil), []gen{{0, 0, 8}, {0, 0, 8}}, []load{{0, 6}, {0, 2}})
	wantBreaches(t, n, nil, []int{4, 4})
	wantBreaches(t, n, nil, []int{8, 0}, lacks(0, "8"))
	wantBreaches(t, n, nil, []int{5, 3})
	n.Gens[1].Most = 7
	wantBreaches(t, n, nil, []int{5, 3}, lacks(0, "1"))
}
