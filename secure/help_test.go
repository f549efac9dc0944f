package secure_test

import (
	"math/big"
	"math/rand/v2"
	"slices"
	"strconv"
	"testing"

	"gridworks/api"
	"gridworks/bars"
	"gridworks/flow"
	"gridworks/secure"
)

// wire: a line's ends, its Worth, and its Limit; of a tie these two say nothing.
type wire struct{ from, to, worth, limit int }

// gen: a generator's bus, Least and Most.
type gen struct{ bus, least, most int }

// load: a load's bus, and what it draws.
type load struct{ bus, power int }

// network of so many buses, with these lines and closed ties.
func network(buses int, lines, ties []wire) api.Net {
	n := api.Net{Name: "n"}
	for i := range buses {
		n.Buses = append(n.Buses, "b"+strconv.Itoa(i))
	}
	for i, w := range lines {
		n.Lines = append(n.Lines, api.Line{Name: "l" + strconv.Itoa(i), From: w.from, To: w.to, Worth: w.worth, Limit: w.limit})
	}
	for i, w := range ties {
		n.Ties = append(n.Ties, api.Tie{Name: "t" + strconv.Itoa(i), From: w.from, To: w.to, Closed: true})
	}
	return n
}

// with: the network with these generators and loads in place of its own.
func with(n api.Net, gens []gen, loads []load) api.Net {
	n.Gens, n.Loads = nil, nil
	for i, g := range gens {
		n.Gens = append(n.Gens, api.Gen{Name: "g" + strconv.Itoa(i), Bus: g.bus, Least: g.least, Most: g.most, Cost: 7 * i})
	}
	for i, l := range loads {
		n.Loads = append(n.Loads, api.Load{Name: "d" + strconv.Itoa(i), Bus: l.bus, Power: l.power})
	}
	return n
}

// triangle: chapter 4's, with these Limits.
func triangle(a, b, c int) api.Net {
	return network(3, []wire{{0, 1, 1, a}, {1, 2, 1, b}, {0, 2, 2, c}}, nil)
}

// lacking: which lines are out, told by their places.
func lacking(n api.Net, lines ...int) []bool {
	out := make([]bool, len(n.Lines))
	for _, i := range lines {
		out[i] = true
	}
	return out
}

// whole, noLine, noGen: what goes wrong, of each kind.
func whole(on int, by string) api.Breach { return api.Breach{Kind: api.Whole, Of: -1, On: on, By: by} }
func noLine(of, on int, by string) api.Breach {
	return api.Breach{Kind: api.NoLine, Of: of, On: on, By: by}
}
func noGen(of, on int, by string) api.Breach {
	return api.Breach{Kind: api.NoGen, Of: of, On: on, By: by}
}
func split(of int) api.Breach            { return noLine(of, -1, "0") }
func lacks(of int, by string) api.Breach { return noGen(of, -1, by) }

func wantFeeds(t *testing.T, n api.Net, plan []int, want ...int) {
	t.Helper()
	if f, e := secure.Feeds(n, plan); e != api.OK || !slices.Equal(f, want) {
		t.Errorf("Feeds(%+v, %v): %v, %d; %v are wanted", n, plan, f, e, want)
	}
}

func wantBreaches(t *testing.T, n api.Net, out []bool, plan []int, want ...api.Breach) {
	t.Helper()
	if l, e := secure.Check(n, out, plan); e != api.OK || !slices.Equal(l, want) {
		t.Errorf("Check(%+v, %v, %v): %v, %d; %v are wanted", n, out, plan, l, e, want)
	}
}

// unfed: whether Feeds refuses like this, with nothing beside it.
func unfed(t *testing.T, n api.Net, plan []int, want api.Errno) {
	t.Helper()
	if f, e := secure.Feeds(n, plan); e != want || len(f) != 0 {
		t.Errorf("Feeds(%+v, %v): %v, %d; %d is wanted", n, plan, f, e, want)
	}
}

// unchecked: whether Check refuses like this, with nothing beside it.
func unchecked(t *testing.T, n api.Net, out []bool, plan []int, want api.Errno) {
	t.Helper()
	if l, e := secure.Check(n, out, plan); e != want || len(l) != 0 {
		t.Errorf("Check(%+v, %v, %v): %v, %d; %d is wanted", n, out, plan, l, e, want)
	}
}

// drawn: a network of at most so many buses, lines, ties and generators, which lines are out, and a plan by which each island generates what it draws.
func drawn(t *testing.T, d *rand.Rand, buses, lines, ties, gens int) (api.Net, []bool, []int) {
	t.Helper()
	b := 2 + d.IntN(buses-1)
	wires := func(most int) []wire {
		l := make([]wire, d.IntN(most+1))
		for i := range l {
			x := d.IntN(b)
			l[i] = wire{x, (x + 1 + d.IntN(b-1)) % b, 1 + d.IntN(30), d.IntN(150)}
		}
		return l
	}
	n := network(b, wires(lines), wires(ties))
	for i := range n.Ties {
		n.Ties[i].Closed = d.IntN(2) == 0
	}
	out := make([]bool, len(n.Lines))
	for i := range out {
		out[i] = d.IntN(6) == 0
	}
	islands := islandsOf(t, n, out)
	var units []gen
	var loads []load
	var plan []int
	for range d.IntN(gens + 1) {
		g := gen{d.IntN(b), d.IntN(20), 20 + d.IntN(200)}
		power := g.least + d.IntN(g.most-g.least+1)
		if d.IntN(5) == 0 {
			power = 0
		}
		to := d.IntN(b)
		for islands[to] != islands[g.bus] {
			to = d.IntN(b)
		}
		units, plan, loads = append(units, g), append(plan, power), append(loads, load{to, power})
	}
	return with(n, units, loads), out, plan
}

func islandsOf(t *testing.T, n api.Net, out []bool) []int {
	t.Helper()
	l, e := bars.Islands(n, out)
	if e != api.OK {
		t.Fatalf("Islands(%+v, %v): %d", n, out, e)
	}
	return l
}

// rat: a number, which must be in form.
func rat(t *testing.T, s string) *big.Rat {
	t.Helper()
	x, ok := new(big.Rat).SetString(s)
	if !ok || x.RatString() != s {
		t.Fatalf("%q is not in form", s)
	}
	return x
}

// overloads: of what is generated which lines carry too much, as chapter 4 tells it anew.
func overloads(t *testing.T, n api.Net, out []bool, powers []*big.Rat, b api.Breach) []api.Breach {
	t.Helper()
	feeds := make([]*big.Rat, len(n.Buses))
	for i := range feeds {
		feeds[i] = new(big.Rat)
	}
	for i, g := range n.Gens {
		feeds[g.Bus].Add(feeds[g.Bus], powers[i])
	}
	for _, d := range n.Loads {
		feeds[d.Bus].Sub(feeds[d.Bus], big.NewRat(int64(d.Power), 1))
	}
	told := make([]string, len(feeds))
	for i, f := range feeds {
		told[i] = f.RatString()
	}
	s, e := flow.Solve(n, out, told)
	if e != api.OK {
		t.Fatalf("Solve(%+v, %v, %q): %d", n, out, told, e)
	}
	var l []api.Breach
	for i, f := range s.Flows {
		x := rat(t, f)
		x.Abs(x)
		if limit := big.NewRat(int64(n.Lines[i].Limit), 1); x.Cmp(limit) > 0 {
			b.On, b.By = i, x.Sub(x, limit).RatString()
			l = append(l, b)
		}
	}
	return l
}

// breaches: what Check should tell, found one after the other: each failure is made to happen, and what then flows is solved.
func breaches(t *testing.T, n api.Net, out []bool, plan []int) []api.Breach {
	t.Helper()
	powers := make([]*big.Rat, len(plan))
	for i, p := range plan {
		powers[i] = big.NewRat(int64(p), 1)
	}
	l := overloads(t, n, out, powers, api.Breach{Kind: api.Whole, Of: -1})
	islands := islandsOf(t, n, out)
	for k := range n.Lines {
		if out[k] {
			continue
		}
		gone := slices.Clone(out)
		gone[k] = true
		if slices.Max(islandsOf(t, n, gone)) > slices.Max(islands) {
			l = append(l, split(k))
		} else {
			l = append(l, overloads(t, n, gone, powers, api.Breach{Kind: api.NoLine, Of: k})...)
		}
	}
	for k, g := range n.Gens {
		if plan[k] > 0 {
			l = append(l, withoutGen(t, n, out, plan, k, func(bus int) bool { return islands[bus] == islands[g.Bus] })...)
		}
	}
	return l
}

// withoutGen: what goes wrong without the generator k, at whose island's buses help stands.
func withoutGen(t *testing.T, n api.Net, out []bool, plan []int, k int, near func(bus int) bool) []api.Breach {
	t.Helper()
	rooms := new(big.Rat)
	left := make([]*big.Rat, len(plan))
	for i, g := range n.Gens {
		left[i] = new(big.Rat)
		if i != k && plan[i] > 0 && near(g.Bus) {
			left[i].SetInt64(int64(g.Most - plan[i]))
		}
		rooms.Add(rooms, left[i])
	}
	lost := big.NewRat(int64(plan[k]), 1)
	if rooms.Cmp(lost) < 0 {
		return []api.Breach{lacks(k, lost.Sub(lost, rooms).RatString())}
	}
	for i := range left {
		left[i].Quo(left[i], rooms)
		left[i].Mul(left[i], lost)
		if i != k {
			left[i].Add(left[i], big.NewRat(int64(plan[i]), 1))
		}
	}
	return overloads(t, n, out, left, api.Breach{Kind: api.NoGen, Of: k})
}
