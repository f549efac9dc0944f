package dispatch_test

import (
	"math/big"
	"math/rand/v2"
	"slices"
	"strconv"
	"testing"

	"gridworks/api"
	"gridworks/bars"
	"gridworks/dispatch"
)

// wire: a line's ends, its Worth and its Limit; of a tie these say nothing.
type wire struct{ from, to, worth, limit int }

// gen: its bus, and its Least, Most and Cost.
type gen struct{ bus, least, most, cost int }

// load: its bus, and what it draws.
type load struct{ bus, power int }

// network of so many buses, with these lines and closed ties.
func network(buses int, lines, ties []wire) api.Net {
	n := api.Net{Name: "n"}
	for i := range buses {
		n.Buses = append(n.Buses, "b"+strconv.Itoa(i))
	}
	for i, w := range lines {
		n.Lines = append(n.Lines, api.Line{Name: "l" + strconv.Itoa(i), From: w.from, To: w.to, Worth: w.worth, Limit: w.limit})
	}
	for i, w := range ties {
		n.Ties = append(n.Ties, api.Tie{Name: "t" + strconv.Itoa(i), From: w.from, To: w.to, Closed: true})
	}
	return n
}

// with generators and loads.
func with(n api.Net, gens []gen, loads []load) api.Net {
	for i, g := range gens {
		n.Gens = append(n.Gens, api.Gen{Name: "g" + strconv.Itoa(i), Bus: g.bus, Least: g.least, Most: g.most, Cost: g.cost})
	}
	for i, d := range loads {
		n.Loads = append(n.Loads, api.Load{Name: "d" + strconv.Itoa(i), Bus: d.bus, Power: d.power})
	}
	return n
}

// example: the chapter's.
func example() api.Net {
	return with(network(2, []wire{{0, 1, 1, 10}}, nil), []gen{{0, 0, 50, 10}, {1, 0, 50, 30}}, []load{{1, 15}})
}

// triangle: chapter 4's, of these Limits.
func triangle(a, b, c int) api.Net {
	return network(3, []wire{{0, 1, 1, a}, {1, 2, 1, b}, {0, 2, 2, c}}, nil)
}

// lacking: which lines are out, told by their places.
func lacking(n api.Net, lines ...int) []bool {
	out := make([]bool, len(n.Lines))
	for _, i := range lines {
		out[i] = true
	}
	return out
}

// l: a list of texts.
func l(texts ...string) []string { return texts }

// copied: a deal in memory of its own.
func copied(d api.Deal) api.Deal {
	for _, c := range []*[]string{&d.Power, &d.Angles, &d.Flows, &d.Price, &d.Rent} {
		*c = slices.Clone(*c)
	}
	return d
}

func same(a, b api.Deal) bool {
	return a.None == b.None && a.Cost == b.Cost && slices.Equal(a.Power, b.Power) && slices.Equal(a.Angles, b.Angles) && slices.Equal(a.Flows, b.Flows) && slices.Equal(a.Price, b.Price) && slices.Equal(a.Rent, b.Rent)
}

// wantCheck: whether Check tells this of a deal.
func wantCheck(t *testing.T, n api.Net, out []bool, d api.Deal, want bool) {
	t.Helper()
	if ok, e := dispatch.Check(n, out, d); ok != want || e != api.OK {
		t.Errorf("Check(%+v, %v, %+v): %v, %d; %v is wanted", n, out, d, ok, e, want)
	}
}

// best: Best, of what is fit for it; by Check and by the tests' own judge it is right.
func best(t *testing.T, n api.Net, out []bool) api.Deal {
	t.Helper()
	d, e := dispatch.Best(n, out)
	if e != api.OK || !right(t, n, out, d) {
		t.Fatalf("Best(%+v, %v): %+v, %d", n, out, d, e)
	}
	wantCheck(t, n, out, d, true)
	return d
}

// wantBest: where just one deal is right.
func wantBest(t *testing.T, n api.Net, out []bool, want api.Deal) {
	t.Helper()
	if d := best(t, n, out); !same(d, want) {
		t.Errorf("Best(%+v, %v): %+v; %+v is wanted", n, out, d, want)
	}
}

// wantCost: where several deals may be right.
func wantCost(t *testing.T, n api.Net, out []bool, cost string) {
	t.Helper()
	if d := best(t, n, out); d.None || d.Cost != cost {
		t.Errorf("Best(%+v, %v): %+v; it costs %s", n, out, d, cost)
	}
}

func wantNone(t *testing.T, n api.Net, out []bool) {
	t.Helper()
	if d := best(t, n, out); !d.None {
		t.Errorf("Best(%+v, %v): %+v; nothing can be", n, out, d)
	}
}

// refused: whether both refuse like this, with nothing beside it, whatever the deal is.
func refused(t *testing.T, n api.Net, out []bool, want api.Errno) {
	t.Helper()
	if d, e := dispatch.Best(n, out); e != want || !same(d, api.Deal{}) {
		t.Errorf("Best(%+v, %v): %+v, %d; %d is wanted", n, out, d, e, want)
	}
	noughts := slices.Repeat([]string{"0"}, len(n.Buses))
	for _, d := range []api.Deal{{}, {None: true, Cost: "0"}, {Price: noughts, Angles: noughts, Cost: "0"}, {Power: l("x")}} {
		if ok, e := dispatch.Check(n, out, d); ok || e != want {
			t.Errorf("Check(%+v, %v, %+v): %v, %d; %d is wanted", n, out, d, ok, e, want)
		}
	}
}

// rat: a number, which must be in form.
func rat(t *testing.T, s string) *big.Rat {
	t.Helper()
	x, ok := new(big.Rat).SetString(s)
	if !ok || x.RatString() != s {
		t.Fatalf("%q is not in form", s)
	}
	return x
}

func whole(k int) *big.Rat { return big.NewRat(int64(k), 1) }

// formed: whether there are so many, each a number in form of at most MaxLong bytes.
func formed(count int, l []string) bool {
	for _, s := range l {
		if len(s) > api.MaxLong {
			return false
		}
		if x, ok := new(big.Rat).SetString(s); !ok || x.RatString() != s {
			return false
		}
	}
	return len(l) == count
}

// sum of products, two by two.
func sum(l ...*big.Rat) *big.Rat {
	all := new(big.Rat)
	for i := 0; i < len(l); i += 2 {
		all.Add(all, new(big.Rat).Mul(l[i], l[i+1]))
	}
	return all
}

// right: the tests' own judge of a deal, by the words of P8.1 and P8.2.
func right(t *testing.T, n api.Net, out []bool, d api.Deal) bool {
	t.Helper()
	if !formed(len(n.Buses), d.Price) || !formed(len(n.Lines), d.Rent) || !formed(1, l(d.Cost)) || !settled(t, n, out, d) {
		return false
	}
	if d.None {
		return len(d.Power)+len(d.Angles)+len(d.Flows) == 0 && d.Cost == "0" && worthMore(t, n, d)
	}
	return formed(len(n.Gens), d.Power) && formed(len(n.Buses), d.Angles) && formed(len(n.Lines), d.Flows) &&
		flowing(t, n, out, d) && served(t, n, d) && bought(t, n, d)
}

// flowing: 1, and of 2 and 4 what is said of flows.
func flowing(t *testing.T, n api.Net, out []bool, d api.Deal) bool {
	t.Helper()
	nodes, islands := numbered(t, n, out)
	for a := range n.Buses {
		if slices.Index(islands, islands[a]) == a && d.Angles[a] != "0" {
			return false
		}
		for b := range n.Buses {
			if nodes[a] == nodes[b] && d.Angles[a] != d.Angles[b] {
				return false
			}
		}
	}
	for i, k := range n.Lines {
		x := new(big.Rat)
		if !out[i] {
			x.Sub(rat(t, d.Angles[k.From]), rat(t, d.Angles[k.To]))
			x.Mul(x, whole(k.Worth))
		}
		rent := rat(t, d.Rent[i]).Sign()
		switch {
		case x.RatString() != d.Flows[i], x.Cmp(whole(k.Limit)) > 0, x.Cmp(whole(-k.Limit)) < 0:
			return false
		case rent > 0 && x.Cmp(whole(k.Limit)) != 0, rent < 0 && x.Cmp(whole(-k.Limit)) != 0:
			return false
		}
	}
	return true
}

// served: of 2, what is said of generators and nodes.
func served(t *testing.T, n api.Net, d api.Deal) bool {
	t.Helper()
	nodes, _ := numbered(t, n, make([]bool, len(n.Lines)))
	for node := range n.Buses {
		x := new(big.Rat)
		for i, g := range n.Gens {
			if nodes[g.Bus] == node {
				x.Add(x, rat(t, d.Power[i]))
			}
		}
		for _, k := range n.Loads {
			if nodes[k.Bus] == node {
				x.Sub(x, whole(k.Power))
			}
		}
		for i, k := range n.Lines {
			if nodes[k.From] == node {
				x.Sub(x, rat(t, d.Flows[i]))
			}
			if nodes[k.To] == node {
				x.Add(x, rat(t, d.Flows[i]))
			}
		}
		if x.Sign() != 0 {
			return false
		}
	}
	for i, g := range n.Gens {
		if x := rat(t, d.Power[i]); x.Cmp(whole(g.Least)) < 0 || x.Cmp(whole(g.Most)) > 0 {
			return false
		}
	}
	return true
}

// bought: 3 and 5.
func bought(t *testing.T, n api.Net, d api.Deal) bool {
	t.Helper()
	all := new(big.Rat)
	for i, g := range n.Gens {
		x, cost, price := rat(t, d.Power[i]), whole(g.Cost), rat(t, d.Price[g.Bus])
		all.Add(all, sum(cost, x))
		if cost.Cmp(price) < 0 && x.Cmp(whole(g.Most)) != 0 || cost.Cmp(price) > 0 && x.Cmp(whole(g.Least)) != 0 {
			return false
		}
	}
	return all.RatString() == d.Cost
}

// settled: of 4, what is not said of flows, and 6.
func settled(t *testing.T, n api.Net, out []bool, d api.Deal) bool {
	t.Helper()
	nodes, _ := numbered(t, n, out)
	for a := range n.Buses {
		for b := range n.Buses {
			if nodes[a] == nodes[b] && d.Price[a] != d.Price[b] {
				return false
			}
		}
		together := new(big.Rat)
		for i, k := range n.Lines {
			if out[i] && d.Rent[i] != "0" {
				return false
			}
			if out[i] {
				continue
			}
			x := sum(whole(k.Worth), rat(t, d.Price[k.From]), whole(-k.Worth), rat(t, d.Price[k.To]), whole(k.Worth), rat(t, d.Rent[i]))
			if nodes[k.From] == nodes[a] {
				together.Add(together, x)
			}
			if nodes[k.To] == nodes[a] {
				together.Sub(together, x)
			}
		}
		if together.Sign() != 0 {
			return false
		}
	}
	return true
}

// worthMore: what P8.2 asks for last.
func worthMore(t *testing.T, n api.Net, d api.Deal) bool {
	t.Helper()
	loads, lines := paidByLoads(t, n, d), worthOfRents(t, n, d)
	most := new(big.Rat)
	for _, g := range n.Gens {
		low, high := sum(rat(t, d.Price[g.Bus]), whole(g.Least)), sum(rat(t, d.Price[g.Bus]), whole(g.Most))
		if low.Cmp(high) > 0 {
			high = low
		}
		most.Add(most, high)
	}
	return loads.Sub(loads, lines).Cmp(most) > 0
}

func paidByLoads(t *testing.T, n api.Net, d api.Deal) *big.Rat {
	t.Helper()
	all := new(big.Rat)
	for _, k := range n.Loads {
		all.Add(all, sum(rat(t, d.Price[k.Bus]), whole(k.Power)))
	}
	return all
}

func worthOfRents(t *testing.T, n api.Net, d api.Deal) *big.Rat {
	t.Helper()
	all := new(big.Rat)
	for i, k := range n.Lines {
		x := rat(t, d.Rent[i])
		all.Add(all, sum(x.Abs(x), whole(k.Limit)))
	}
	return all
}

func numbered(t *testing.T, n api.Net, out []bool) (nodes, islands []int) {
	t.Helper()
	nodes, e := bars.Nodes(n)
	islands, f := bars.Islands(n, out)
	if e != api.OK || f != api.OK {
		t.Fatalf("%+v, %v: %d, %d", n, out, e, f)
	}
	return nodes, islands
}

// size: up to how many or how much is drawn of each.
type size struct{ buses, lines, ties, gens, loads, worth, limit, power, cost int }

// drawn: a network of at most that size, and which lines are out.
func drawn(d *rand.Rand, s size) (api.Net, []bool) {
	b := 2 + d.IntN(s.buses-1)
	wires := func(most int) []wire {
		l := make([]wire, d.IntN(most+1))
		for i := range l {
			x := d.IntN(b)
			l[i] = wire{x, (x + 1 + d.IntN(b-1)) % b, 1 + d.IntN(s.worth), d.IntN(s.limit + 1)}
		}
		return l
	}
	var gens []gen
	for range d.IntN(s.gens + 1) {
		g := gen{bus: d.IntN(b), most: d.IntN(s.power + 1), cost: d.IntN(s.cost + 1)}
		if d.IntN(4) == 0 {
			g.least = d.IntN(g.most + 1)
		}
		gens = append(gens, g)
	}
	var loads []load
	for range d.IntN(s.loads + 1) {
		loads = append(loads, load{d.IntN(b), d.IntN(s.power/3 + 1)})
	}
	n := with(network(b, wires(s.lines), wires(s.ties)), gens, loads)
	for i := range n.Ties {
		n.Ties[i].Closed = d.IntN(2) == 0
	}
	out := make([]bool, len(n.Lines))
	for i := range out {
		out[i] = d.IntN(6) == 0
	}
	return n, out
}

// joined: drawn, but in one island: each bus has a line to one ahead of it, and few are out.
func joined(d *rand.Rand, s size) (api.Net, []bool) {
	n, out := drawn(d, s)
	for i := 1; i < len(n.Buses); i++ {
		n.Lines = append(n.Lines, api.Line{Name: "j" + strconv.Itoa(i), From: d.IntN(i), To: i, Worth: 1 + d.IntN(s.worth), Limit: d.IntN(s.limit + 1)})
		out = append(out, false)
	}
	return n, out
}
