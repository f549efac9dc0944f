package dispatch_test

import (
	"math/big"
	"math/rand/v2"
	"slices"
	"strconv"
	"testing"

	"gridworks/api"
	"gridworks/flow"
)

// small and great networks.
var (
	small = size{buses: 5, lines: 7, ties: 2, gens: 4, loads: 4, worth: 9, limit: 30, power: 40, cost: 20}
	great = size{buses: api.MaxBuses, lines: api.MaxLines - api.MaxBuses, ties: 4, gens: api.MaxGens, loads: 8, worth: 50, limit: 300, power: 200, cost: 50}
)

// P8.3: deals of drawn networks are right, by the tests' own judge, too. (A right deal with None shows that no other one can be, and any other right one that none costs less.)
func TestDrawn(t *testing.T) {
	d := rand.New(rand.NewPCG(8, 1))
	some, none, full := 0, 0, 0
	for i := range 3000 {
		draw, s := drawn, small
		if i%3 > 0 {
			draw = joined
		}
		if i%9 == 0 {
			draw, s = joined, great
		}
		n, out := draw(d, s)
		deal := best(t, n, out)
		if deal.None {
			none++
			continue
		}
		some++
		if slices.ContainsFunc(deal.Rent, func(s string) bool { return s != "0" }) {
			full++
		}
	}
	if some < 1000 || none < 1000 || full < 100 {
		t.Error("too few of a kind:", some, none, full)
	}
}

// altered: a deal, something of which is other; often it is right still.
func altered(t *testing.T, d *rand.Rand, n api.Net, deal api.Deal) api.Deal {
	t.Helper()
	deal = copied(deal)
	moved := func(s string) string {
		x := big.NewRat(int64(d.IntN(7)-3), int64(1+d.IntN(3)))
		return x.Add(x, rat(t, s)).RatString()
	}
	all := lists(&deal)
	switch d.IntN(6) {
	case 0: // one number
		if k := *all[d.IntN(len(all))]; len(k) > 0 {
			i := d.IntN(len(k))
			k[i] = moved(k[i])
		}
	case 1: // two powers, one for the other
		if k := deal.Power; len(k) > 1 {
			i, j := d.IntN(len(k)), d.IntN(len(k))
			x := big.NewRat(int64(d.IntN(5)), int64(1+d.IntN(3)))
			y := new(big.Rat).Sub(rat(t, k[j]), x)
			k[i], k[j] = x.Add(x, rat(t, k[i])).RatString(), y.RatString()
		}
	case 2: // all prices by the same
		by := moved("0")
		for i, s := range deal.Price {
			deal.Price[i] = new(big.Rat).Add(rat(t, s), rat(t, by)).RatString()
		}
	case 3: // all prices and rents so many times as great
		by := moved("1")
		for _, k := range [][]string{deal.Price, deal.Rent} {
			for i, s := range k {
				k[i] = new(big.Rat).Mul(rat(t, s), rat(t, by)).RatString()
			}
		}
	case 4: // the rent of one line, and both its prices with it
		if k := deal.Rent; len(k) > 0 {
			i := d.IntN(len(k))
			by := rat(t, moved("0"))
			k[i] = new(big.Rat).Add(rat(t, k[i]), by).RatString()
			to := n.Lines[i].To
			deal.Price[to] = by.Add(by, rat(t, deal.Price[to])).RatString()
		}
	case 5:
		deal.Cost = moved(deal.Cost)
	}
	return deal
}

// P8.1, P8.2, P8.3: Check tells the same of altered deals as the tests' own judge.
func TestDrawnChecks(t *testing.T) {
	d := rand.New(rand.NewPCG(8, 2))
	var told [2][2]int // of deals without and with None: how many were wrong, and right
	for i := range 500 {
		draw := drawn
		if i%2 > 0 {
			draw = joined
		}
		n, out := draw(d, small)
		deal := best(t, n, out)
		for range 12 {
			other := altered(t, d, n, deal)
			want := right(t, n, out, other)
			wantCheck(t, n, out, other, want)
			if !same(deal, other) {
				told[number(other.None)][number(want)]++
			}
		}
	}
	for _, k := range told {
		if k[0] < 300 || k[1] < 150 {
			t.Error("too few of a kind:", told)
		}
	}
}

func number(b bool) int {
	if b {
		return 1
	}
	return 0
}

// plans: all whole plans of a network's generators.
func plans(n api.Net, yield func(plan []int)) {
	plan := make([]int, len(n.Gens))
	var from func(i int)
	from = func(i int) {
		if i == len(plan) {
			yield(plan)
			return
		}
		for plan[i] = n.Gens[i].Least; plan[i] <= n.Gens[i].Most; plan[i]++ {
			from(i + 1)
		}
	}
	from(0)
}

// cheapest: the least that a whole plan costs by which all loads are served, and whether there is one.
func cheapest(t *testing.T, n api.Net, out []bool) (int, bool) {
	t.Helper()
	least, found := 0, false
	plans(n, func(plan []int) {
		feeds, cost := make([]int, len(n.Buses)), 0
		for i, g := range n.Gens {
			feeds[g.Bus] += plan[i]
			cost += g.Cost * plan[i]
		}
		for _, k := range n.Loads {
			feeds[k.Bus] -= k.Power
		}
		if found && cost >= least {
			return
		}
		var feed []string
		for _, x := range feeds {
			feed = append(feed, strconv.Itoa(x))
		}
		s, e := flow.Solve(n, out, feed)
		for i, x := range s.Flows {
			if f := rat(t, x); f.Abs(f).Cmp(whole(n.Lines[i].Limit)) > 0 {
				return
			}
		}
		if e == api.OK {
			least, found = cost, true
		}
	})
	return least, found
}

// tiny networks, of which all whole plans can be tried.
var tiny = size{buses: 4, lines: 5, ties: 1, gens: 3, loads: 3, worth: 4, limit: 8, power: 8, cost: 9}

// P8.3: no whole plan is cheaper than the best deal, and where nothing can be there is none.
func TestNoneCheaper(t *testing.T) {
	d := rand.New(rand.NewPCG(8, 3))
	compared := 0
	for i := range 250 {
		draw := drawn
		if i%2 > 0 {
			draw = joined
		}
		n, out := draw(d, tiny)
		deal := best(t, n, out)
		cost, found := cheapest(t, n, out)
		if found && (deal.None || rat(t, deal.Cost).Cmp(whole(cost)) > 0) {
			t.Errorf("%+v, %v: %+v; there is a plan for %d", n, out, deal, cost)
		}
		if found {
			compared++
		}
	}
	if compared < 60 {
		t.Error("too few:", compared)
	}
}

// P8.3: without rings a best deal is a whole plan: then the cheapest of these costs as much, and if there is none, nothing can be.
func TestTrees(t *testing.T) {
	d := rand.New(rand.NewPCG(8, 4))
	some, none := 0, 0
	s := tiny
	s.lines, s.ties = 0, 0
	for range 300 {
		n, _ := joined(d, s)
		out := lacking(n)
		if d.IntN(3) == 0 {
			out[d.IntN(len(out))] = true
		}
		cost, found := cheapest(t, n, out)
		deal := best(t, n, out)
		if deal.None == found || found && deal.Cost != strconv.Itoa(cost) {
			t.Errorf("%+v, %v: %+v; %d, %v are wanted", n, out, deal, cost, found)
		}
		some += number(found)
		none += number(!found)
	}
	if some < 60 || none < 60 {
		t.Error("too few of a kind:", some, none)
	}
}

// What comes of it: what loads pay, less what generators get, is what the rents are worth.
func TestMoney(t *testing.T) {
	d := rand.New(rand.NewPCG(8, 5))
	worth := 0
	for range 1000 {
		n, out := joined(d, small)
		deal := best(t, n, out)
		if deal.None {
			continue
		}
		left := paidByLoads(t, n, deal)
		for i, g := range n.Gens {
			left.Sub(left, sum(rat(t, deal.Price[g.Bus]), rat(t, deal.Power[i])))
		}
		rents := worthOfRents(t, n, deal)
		if left.Cmp(rents) != 0 {
			t.Errorf("%+v, %v, %+v: %s is left, %s the rents are worth", n, out, deal, left, rents)
		}
		worth += rents.Sign()
	}
	if worth < 40 {
		t.Error("too few rents:", worth)
	}
}

// What comes of it: a line that can carry less never makes it cheaper.
func TestLessLimit(t *testing.T) {
	d := rand.New(rand.NewPCG(8, 6))
	dearer, none := 0, 0
	for range 500 {
		n, out := joined(d, small)
		deal := best(t, n, out)
		for !deal.None {
			i := d.IntN(len(n.Lines))
			if n.Lines[i].Limit == 0 {
				break
			}
			n.Lines[i].Limit = d.IntN(n.Lines[i].Limit)
			other := best(t, n, out)
			if other.None {
				none++
			} else if c := rat(t, other.Cost).Cmp(rat(t, deal.Cost)); c < 0 {
				t.Errorf("%+v, %v: %+v after %+v", n, out, other, deal)
			} else {
				dearer += c
			}
			deal = other
		}
	}
	if dearer < 40 || none < 40 {
		t.Error("too few of a kind:", dearer, none)
	}
}

// P8.1, P8.3: the greatest networks, whose numbers are long, but not too long.
func TestGreatest(t *testing.T) {
	d := rand.New(rand.NewPCG(8, 8))
	longest, some := 0, 0
	for round := range 60 {
		n := network(api.MaxBuses, nil, nil)
		for i := range api.MaxLines {
			x := d.IntN(api.MaxBuses)
			k := wire{x, (x + 1 + d.IntN(api.MaxBuses-1)) % api.MaxBuses, 1 + d.IntN(api.MaxWorth), d.IntN(1000 + 200*round)}
			if i+1 < api.MaxBuses {
				k.from, k.to = i, i+1
			}
			n.Lines = append(n.Lines, api.Line{Name: "l" + strconv.Itoa(i), From: k.from, To: k.to, Worth: k.worth, Limit: k.limit})
		}
		var gens []gen
		for range api.MaxGens {
			gens = append(gens, gen{d.IntN(api.MaxBuses), 0, d.IntN(api.MaxPower), d.IntN(api.MaxCost)})
		}
		var loads []load
		for bus := range api.MaxLoads {
			loads = append(loads, load{bus, d.IntN(2000)})
		}
		n = with(n, gens, loads)
		deal := best(t, n, lacking(n))
		some += number(!deal.None)
		for _, c := range lists(&deal) {
			for _, s := range *c {
				longest = max(longest, len(s))
			}
		}
	}
	if longest < api.MaxDigits || some < 10 || some > 50 {
		t.Error("too few of a kind:", longest, some)
	}
}

// P8.3: the greatest Limits, Costs and Powers.
func TestGreatestNumbers(t *testing.T) {
	n := with(network(2, []wire{{0, 1, api.MaxWorth, api.MaxPower}}, nil), []gen{{0, 0, api.MaxPower, api.MaxCost}}, []load{{1, api.MaxPower}})
	wantCost(t, n, lacking(n), "10000000000")
	wantNone(t, n, lacking(n, 0))
	n.Gens[0].Least = api.MaxPower
	wantCost(t, n, lacking(n), "10000000000")
	n.Loads[0].Power--
	wantNone(t, n, lacking(n))
	n.Loads[0].Power++
	n.Lines[0].Limit--
	wantNone(t, n, lacking(n))
}

// What holds everywhere: the same is answered each time.
func TestSameAgain(t *testing.T) {
	d := rand.New(rand.NewPCG(8, 7))
	for range 50 {
		n, out := joined(d, small)
		if a, b := best(t, n, out), best(t, n, out); !same(a, b) {
			t.Errorf("%+v, %v: %+v, then %+v", n, out, a, b)
		}
	}
}
