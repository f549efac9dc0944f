package dispatch_test

import (
	"slices"
	"strings"
	"testing"

	"gridworks/api"
)

// checks: of a network and a deal that is right there, what comes of changes.
type checks struct {
	t    *testing.T
	net  api.Net
	out  []bool
	deal api.Deal
}

func (c checks) change(f func(d *api.Deal), want bool) {
	c.t.Helper()
	d := copied(c.deal)
	f(&d)
	wantCheck(c.t, c.net, c.out, d, want)
	if right(c.t, c.net, c.out, d) != want {
		c.t.Errorf("the tests' own judge: %+v, %v, %+v: %v is wanted", c.net, c.out, d, want)
	}
}

// in a right deal.
func in(t *testing.T, n api.Net, out []bool, d api.Deal) checks {
	t.Helper()
	wantCheck(t, n, out, d, true)
	return checks{t, n, out, d}
}

// P8.1, 1: angles of one node are the same, even if no line ends at the bus.
func TestAnglesOfNodes(t *testing.T) {
	n := with(network(4, []wire{{0, 1, 1, 10}}, []wire{{0, 2, 0, 0}, {1, 3, 0, 0}}), []gen{{0, 0, 50, 10}}, []load{{1, 4}})
	c := in(t, n, lacking(n), api.Deal{Power: l("4"), Angles: l("0", "-4", "0", "-4"), Flows: l("4"), Price: l("10", "10", "10", "10"), Rent: l("0"), Cost: "40"})
	for _, s := range []string{"1", "-1", "-4"} {
		c.change(func(d *api.Deal) { d.Angles[2] = s }, false)
	}
	for _, s := range []string{"0", "4", "-9/2"} {
		c.change(func(d *api.Deal) { d.Angles[3] = s }, false)
	}
}

// P8.1, 1: the first bus of each island has the angle 0, also where nothing flows.
func TestFirstAngles(t *testing.T) {
	n := with(network(4, []wire{{0, 2, 1, 10}, {1, 3, 1, 10}}, nil), []gen{{0, 0, 50, 10}, {1, 0, 50, 10}}, []load{{2, 4}, {3, 5}})
	d := api.Deal{Power: l("4", "5"), Angles: l("0", "0", "-4", "-5"), Flows: l("4", "5"), Price: l("10", "10", "10", "10"), Rent: l("0", "0"), Cost: "90"}
	c := in(t, n, lacking(n), d)
	c.change(func(d *api.Deal) { d.Angles = l("1", "0", "-3", "-5") }, false)
	c.change(func(d *api.Deal) { d.Angles = l("0", "5", "-4", "0") }, false)
	c.change(func(d *api.Deal) { d.Angles = l("4", "0", "0", "-5") }, false)
	n = network(2, nil, nil)
	c = in(t, n, nil, api.Deal{Angles: l("0", "0"), Price: l("7", "-1/2"), Cost: "0"})
	c.change(func(d *api.Deal) { d.Angles[0] = "1/9" }, false)
	c.change(func(d *api.Deal) { d.Angles[1] = "-1" }, false)
}

// P8.1, 1: flows are as the angles tell; what flows round in a ring serves all, too, but is not.
func TestFlowsByAngles(t *testing.T) {
	n := with(triangle(10, 10, 10), []gen{{0, 0, 20, 10}}, []load{{2, 5}})
	d := api.Deal{Power: l("5"), Angles: l("0", "-1", "-2"), Flows: l("1", "1", "4"), Price: l("10", "10", "10"), Rent: l("0", "0", "0"), Cost: "50"}
	c := in(t, n, lacking(n), d)
	c.change(func(d *api.Deal) { d.Flows = l("2", "2", "3") }, false)
	c.change(func(d *api.Deal) { d.Flows = l("0", "0", "5") }, false)
	c.change(func(d *api.Deal) { d.Flows[0] = "-1" }, false)
	d.Angles, d.Flows = l("0", "-5", "-10"), l("5", "5", "0")
	c = in(t, n, lacking(n, 2), d)
	c.change(func(d *api.Deal) { d.Flows = l("4", "4", "1") }, false)
	c.change(func(d *api.Deal) { d.Flows[2] = "20" }, false)
	wantCheck(t, n, lacking(n), d, false)
}

// P8.1, 2: each Power is from Least to Most, ends too.
func TestPowers(t *testing.T) {
	n := with(network(1, nil, nil), []gen{{0, 2, 6, 5}, {0, 1, 20, 5}}, []load{{0, 10}})
	c := in(t, n, nil, api.Deal{Power: l("6", "4"), Angles: l("0"), Price: l("5"), Cost: "50"})
	c.change(func(d *api.Deal) { d.Power = l("2", "8") }, true)
	c.change(func(d *api.Deal) { d.Power = l("7/2", "13/2") }, true)
	c.change(func(d *api.Deal) { d.Power = l("13/2", "7/2") }, false)
	c.change(func(d *api.Deal) { d.Power = l("10", "0") }, false)
	c.change(func(d *api.Deal) { d.Power = l("3/2", "17/2") }, false)
	c.change(func(d *api.Deal) { d.Power = l("-2", "12") }, false)
	c.change(func(d *api.Deal) { d.Power = l("5", "4") }, false)
	c.change(func(d *api.Deal) { d.Power, d.Cost = l("5", "4"), "45" }, false)
}

// P8.1, 2: no flow is above Limit in size, either way; just the Limit may be.
func TestLimits(t *testing.T) {
	for _, turned := range []bool{false, true} {
		n := example()
		n.Lines[0].Limit = 15
		d := api.Deal{Power: l("15", "0"), Angles: l("0", "-15"), Flows: l("15"), Price: l("10", "10"), Rent: l("0"), Cost: "150"}
		if turned {
			n.Lines[0].From, n.Lines[0].To = 1, 0
			d.Flows[0] = "-15"
		}
		wantCheck(t, n, lacking(n), d, true)
		for _, limit := range []int{14, 1, 0} {
			n.Lines[0].Limit = limit
			wantCheck(t, n, lacking(n), d, false)
		}
	}
}

// P8.1, 2: each node has what it draws, not just all of them together; a node, not each of its buses.
func TestServed(t *testing.T) {
	n := with(network(3, []wire{{0, 1, 1, 20}}, []wire{{0, 2, 0, 0}}), []gen{{2, 0, 50, 10}, {1, 0, 50, 10}}, []load{{1, 15}, {0, 2}})
	d := api.Deal{Power: l("12", "5"), Angles: l("0", "-10", "0"), Flows: l("10"), Price: l("10", "10", "10"), Rent: l("0"), Cost: "170"}
	c := in(t, n, lacking(n), d)
	c.change(func(d *api.Deal) { d.Power = l("11", "6") }, false)
	c.change(func(d *api.Deal) { d.Power, d.Cost = l("12", "6"), "180" }, false)
	c.change(func(d *api.Deal) { d.Power, d.Cost = l("11", "5"), "160" }, false)
	c.change(func(d *api.Deal) { d.Angles[1], d.Flows[0] = "-9", "9" }, false)
	c.change(func(d *api.Deal) { d.Power, d.Angles[1], d.Flows[0] = l("11", "6"), "-9", "9" }, true)
	for i, more := range []int{-1, 1} {
		n.Loads[i].Power += more
		wantCheck(t, n, lacking(n), d, false)
	}
}

// P8.1, 3: the cost is that of all generators together.
func TestCost(t *testing.T) {
	n := example()
	c := in(t, n, lacking(n), best(t, n, lacking(n)))
	for _, s := range []string{"251", "249", "0", "-250", "501/2", "100", "150"} {
		c.change(func(d *api.Deal) { d.Cost = s }, false)
	}
}

// P8.1, 4: prices of one node are the same, even if nothing stands at the bus.
func TestPricesOfNodes(t *testing.T) {
	n := with(network(3, nil, []wire{{0, 2, 0, 0}}), []gen{{0, 0, 50, 10}}, []load{{0, 4}})
	c := in(t, n, nil, api.Deal{Power: l("4"), Angles: l("0", "0", "0"), Price: l("10", "3", "10"), Cost: "40"})
	c.change(func(d *api.Deal) { d.Price[1] = "-77/2" }, true)
	c.change(func(d *api.Deal) { d.Price[2] = "3" }, false)
	c.change(func(d *api.Deal) { d.Price[2] = "11" }, false)
}

// P8.1, 4: the rent of a line that is out is 0, whatever its Limit is.
func TestRentOut(t *testing.T) {
	n := network(2, []wire{{0, 1, 1, 0}, {0, 1, 1, 5}}, nil)
	c := in(t, n, lacking(n, 0, 1), api.Deal{Angles: l("0", "0"), Flows: l("0", "0"), Price: l("1", "2"), Rent: l("0", "0"), Cost: "0"})
	for line := range 2 {
		for _, s := range []string{"1", "-1", "1/2"} {
			c.change(func(d *api.Deal) { d.Rent[line] = s }, false)
		}
	}
}

// P8.1, 4, and P8.2: the rent of a line that is out is 0, even if it tells nothing of prices: within a node, or as another one takes it back.
func TestRentOutAlone(t *testing.T) {
	n := with(network(3, []wire{{0, 1, 2, 0}, {1, 2, 2, 0}, {2, 1, 1, 0}}, []wire{{0, 1, 0, 0}}), nil, []load{{2, 0}})
	some := api.Deal{Angles: l("0", "0", "0"), Flows: l("0", "0", "0"), Price: l("1", "1", "1"), Rent: l("0", "0", "0"), Cost: "0"}
	none := api.Deal{None: true, Price: l("1", "1", "1"), Rent: l("0", "0", "0"), Cost: "0"}
	for _, d := range []api.Deal{some, none} {
		n.Loads[0].Power = number(d.None)
		c := in(t, n, lacking(n), d)
		c.change(func(d *api.Deal) { d.Rent[0] = "1" }, true)
		c.change(func(d *api.Deal) { d.Rent = l("0", "1", "2") }, true)
		c.out = lacking(n, 0, 1, 2)
		c.change(func(d *api.Deal) { d.Rent[0] = "1" }, false)
		c.change(func(d *api.Deal) { d.Rent[0] = "-1/2" }, false)
		c.change(func(d *api.Deal) { d.Rent = l("0", "1", "2") }, false)
	}
}

// P8.1, 4: who has a rent carries all it can, that way; within a node nothing flows, so there rents are of lines of Limit 0 alone.
func TestRents(t *testing.T) {
	n := with(network(2, []wire{{0, 1, 1, 10}}, nil), []gen{{0, 0, 50, 10}}, []load{{1, 10}})
	c := in(t, n, lacking(n), api.Deal{Power: l("10"), Angles: l("0", "-10"), Flows: l("10"), Price: l("10", "10"), Rent: l("0"), Cost: "100"})
	c.change(func(d *api.Deal) { d.Price[1], d.Rent[0] = "15", "5" }, true)
	c.change(func(d *api.Deal) { d.Price[1], d.Rent[0] = "61/6", "1/6" }, true)
	c.change(func(d *api.Deal) { d.Price[1], d.Rent[0] = "5", "-5" }, false)
	n.Lines[0].Limit = 11
	d := copied(c.deal)
	wantCheck(t, n, lacking(n), d, true)
	d.Price[1], d.Rent[0] = "15", "5"
	wantCheck(t, n, lacking(n), d, false)
	n = network(2, []wire{{0, 1, 3, 0}, {1, 0, 3, 1}}, []wire{{0, 1, 0, 0}})
	c = in(t, n, lacking(n), api.Deal{Angles: l("0", "0"), Flows: l("0", "0"), Price: l("1", "1"), Rent: l("0", "0"), Cost: "0"})
	for _, s := range []string{"1", "-1", "-7/3"} {
		c.change(func(d *api.Deal) { d.Rent[0] = s }, true)
		c.change(func(d *api.Deal) { d.Rent[1] = s }, false)
	}
}

// P8.1, 5: who is cheaper than its bus's price generates Most, who is dearer Least.
func TestChosen(t *testing.T) {
	for _, k := range []struct {
		least, most int
		low, high   bool // whether the price may be below Cost, and above it
	}{{0, 10, false, false}, {0, 5, false, true}, {5, 10, true, false}, {5, 5, true, true}, {4, 6, false, false}} {
		n := with(network(1, nil, nil), []gen{{0, k.least, k.most, 10}}, []load{{0, 5}})
		c := in(t, n, nil, api.Deal{Power: l("5"), Angles: l("0"), Price: l("10"), Cost: "50"})
		for _, s := range []string{"9", "0", "-10", "19/2"} {
			c.change(func(d *api.Deal) { d.Price[0] = s }, k.low)
		}
		for _, s := range []string{"11", "100", "21/2"} {
			c.change(func(d *api.Deal) { d.Price[0] = s }, k.high)
		}
	}
	n := example() // it is the price of its own bus that counts
	c := in(t, n, lacking(n), best(t, n, lacking(n)))
	c.change(func(d *api.Deal) { d.Price, d.Rent = l("30", "30"), l("0") }, false)
	c.change(func(d *api.Deal) { d.Price, d.Rent = l("10", "10"), l("0") }, false)
	c.change(func(d *api.Deal) { d.Price, d.Rent = l("10", "31"), l("21") }, false)
}

// P8.1, 6: what prices and rents tell of lines, by their Worths, is 0 together at each node; of lines in service alone.
func TestSettled(t *testing.T) {
	n := network(2, []wire{{0, 1, 3, 0}, {0, 1, 5, 0}}, nil)
	plain := api.Deal{Angles: l("0", "0"), Flows: l("0", "0"), Price: l("4", "4"), Rent: l("0", "0"), Cost: "0"}
	c := in(t, n, lacking(n), plain)
	prices := func(a, b, r, s string, want bool) {
		t.Helper()
		c.change(func(d *api.Deal) { d.Price, d.Rent = l(a, b), l(r, s) }, want)
	}
	prices("-1/3", "-1/3", "0", "0", true)
	prices("4", "5", "0", "0", false)
	prices("4", "5", "1", "1", true)
	prices("5", "4", "-1", "-1", true)
	prices("4", "5", "-1", "-1", false)
	prices("4", "4", "5", "-3", true)
	prices("4", "4", "3", "-5", false)
	prices("4", "4", "5", "3", false)
	prices("0", "8", "8/3", "56/5", true)
	c.out = lacking(n, 1)
	prices("4", "5", "1", "0", true)
	prices("4", "5", "8/3", "0", false)
	n.Lines[1].From, n.Lines[1].To = 1, 0
	c.net, c.out = n, lacking(n)
	prices("4", "5", "1", "-1", true)
	prices("4", "5", "1", "1", false)
	prices("4", "4", "5", "3", true)
}

// P8.1, 6: it holds of nodes, not of their buses.
func TestSettledNodes(t *testing.T) {
	n := network(4, []wire{{0, 2, 1, 0}, {1, 3, 1, 0}}, []wire{{0, 1, 0, 0}, {2, 3, 0, 0}})
	c := in(t, n, lacking(n), api.Deal{Angles: l("0", "0", "0", "0"), Flows: l("0", "0"), Price: l("1", "1", "3", "3"), Rent: l("2", "2"), Cost: "0"})
	c.change(func(d *api.Deal) { d.Rent = l("1", "3") }, true)
	c.change(func(d *api.Deal) { d.Rent = l("1", "2") }, false)
	n.Ties[0].Closed = false
	wantCheck(t, n, lacking(n), c.deal, true)
	n.Ties[1].Closed = false
	wantCheck(t, n, lacking(n), c.deal, true)
	c.net = n
	c.change(func(d *api.Deal) { d.Rent = l("1", "3") }, false)
}

// P8.2: with None prices show that more is drawn than can be, or less than must be.
func TestCheckNone(t *testing.T) {
	one := func(gens []gen, draws int) checks {
		return checks{t, with(network(1, nil, nil), gens, []load{{0, draws}}), nil, api.Deal{None: true, Cost: "0"}}
	}
	price := func(c checks, s string, want bool) {
		t.Helper()
		c.change(func(d *api.Deal) { d.Price = l(s) }, want)
	}
	for _, s := range []string{"1", "1/1000", "1000000"} {
		minus := "-" + s
		price(one(nil, 1), s, true)
		price(one(nil, 1), minus, false)
		price(one(nil, 1), "0", false)
		price(one(nil, 0), s, false)
		price(one([]gen{{0, 2, 6, 5}}, 7), s, true)
		price(one([]gen{{0, 2, 6, 5}}, 6), s, false)
		price(one([]gen{{0, 2, 6, 5}}, 7), minus, false)
		price(one([]gen{{0, 2, 6, 5}}, 1), minus, true)
		price(one([]gen{{0, 2, 6, 5}}, 2), minus, false)
		price(one([]gen{{0, 2, 6, 5}}, 1), s, false)
		price(one([]gen{{0, 2, 6, 5}, {0, 0, 3, 9}}, 9), s, false)
		price(one([]gen{{0, 2, 6, 5}, {0, 0, 3, 9}}, 10), s, true)
	}
}

// P8.2: what lines carry counts by their rents' sizes; prices and rents fit, but for flows.
func TestCheckNoneRents(t *testing.T) {
	n := with(network(3, []wire{{0, 1, 2, 10}, {0, 1, 5, 0}}, []wire{{1, 2, 0, 0}}), []gen{{0, 0, 50, 10}, {2, 0, 5, 30}}, []load{{1, 16}})
	d := api.Deal{None: true, Price: l("0", "1", "1"), Rent: l("1", "0"), Cost: "0"}
	c := in(t, n, lacking(n, 1), d)
	c.change(func(d *api.Deal) { d.Price, d.Rent = l("0", "1/9", "1/9"), l("1/9", "0") }, true)
	c.change(func(d *api.Deal) { d.Price, d.Rent = l("1", "2", "2"), l("1", "0") }, false) // then the first one's 50 count
	c.change(func(d *api.Deal) { d.Price, d.Rent = l("-1", "0", "0"), l("1", "0") }, false)
	c.change(func(d *api.Deal) { d.Rent[0] = "0" }, false)
	c.change(func(d *api.Deal) { d.Rent[0] = "-1" }, false)
	c.change(func(d *api.Deal) { d.Rent[1] = "1" }, false)
	c.change(func(d *api.Deal) { d.Price[2] = "0" }, false)
	c.change(func(d *api.Deal) { d.Price[2] = "2" }, false)
	n.Loads[0].Power = 15
	wantCheck(t, n, lacking(n, 1), d, false)
	n.Loads[0].Power, n.Lines[0].Limit = 16, 11
	wantCheck(t, n, lacking(n, 1), d, false)
	n.Lines[0] = api.Line{Name: "l0", From: 1, To: 0, Worth: 2, Limit: 10}
	wantCheck(t, n, lacking(n, 1), d, false)
	d.Rent[0] = "-1"
	wantCheck(t, n, lacking(n, 1), d, true)
	n.Lines[0].Limit = 11
	wantCheck(t, n, lacking(n, 1), d, false)
	n.Lines[0].Limit, d.Rent[1] = 10, "1"
	wantCheck(t, n, lacking(n), d, true)
	wantCheck(t, n, lacking(n, 1), d, false)
}

// P8.2: with None there is no Power, no angle and no flow, and it costs 0.
func TestNoneHasNothing(t *testing.T) {
	n := with(network(2, []wire{{0, 1, 2, 10}}, nil), []gen{{0, 0, 5, 0}}, []load{{1, 6}})
	c := in(t, n, lacking(n), api.Deal{None: true, Price: l("1", "1"), Rent: l("0"), Cost: "0"})
	c.change(func(d *api.Deal) { d.Power, d.Angles, d.Flows = []string{}, []string{}, []string{} }, true)
	c.change(func(d *api.Deal) { d.Power = l("5") }, false)
	c.change(func(d *api.Deal) { d.Angles = l("0", "0") }, false)
	c.change(func(d *api.Deal) { d.Flows = l("0") }, false)
	c.change(func(d *api.Deal) { d.Power, d.Angles, d.Flows = l("5"), l("0", "-3"), l("6") }, false)
	for _, s := range []string{"", "1", "-1", "00", "-0", "0/1", "x", " 0"} {
		c.change(func(d *api.Deal) { d.Cost = s }, false)
	}
	c.change(func(d *api.Deal) { d.None = false }, false)
	n = example()
	in(t, n, lacking(n), best(t, n, lacking(n))).change(func(d *api.Deal) { d.None = true }, false)
}

// lists of a deal.
func lists(d *api.Deal) []*[]string {
	return []*[]string{&d.Power, &d.Angles, &d.Flows, &d.Price, &d.Rent}
}

// P8.3: lists of other lengths are not right.
func TestLengths(t *testing.T) {
	n := with(triangle(10, 10, 4), []gen{{0, 0, 20, 10}, {2, 0, 20, 30}}, []load{{2, 9}})
	for _, draws := range []int{9, 99} {
		n.Loads[0].Power = draws
		c := in(t, n, lacking(n), best(t, n, lacking(n)))
		for i := range lists(&c.deal) {
			c.change(func(d *api.Deal) { k := lists(d)[i]; *k = append(*k, "0") }, false)
			if len(*lists(&c.deal)[i]) == 0 {
				continue
			}
			c.change(func(d *api.Deal) { k := lists(d)[i]; *k = (*k)[1:] }, false)
			c.change(func(d *api.Deal) { k := lists(d)[i]; *k = (*k)[:len(*k)-1] }, false)
			c.change(func(d *api.Deal) { *lists(d)[i] = nil }, false)
		}
		c.change(func(d *api.Deal) { *d = api.Deal{} }, false)
		c.change(func(d *api.Deal) { *d = api.Deal{None: true} }, false)
	}
	wantCheck(t, api.Net{Name: "n"}, nil, api.Deal{}, false)
	wantCheck(t, api.Net{Name: "n"}, nil, api.Deal{Cost: "0"}, true)
	wantCheck(t, api.Net{Name: "n"}, nil, api.Deal{Cost: "0", None: true}, false)
}

// unformed: texts of a number that are not in form.
func unformed(s string) []string {
	return []string{"", "x", "+" + s, "0" + s, " " + s, s + " ", s + "/1", s + ".0", s + "0/10", s + "e0", "--" + s, s + "/0", s + "_", "0x" + s, s + "\x00", "\u0661"}
}

// P8.3: each text must be a number in form, even if it tells the right one.
func TestNoNumbers(t *testing.T) {
	n := with(triangle(10, 10, 4), []gen{{0, 0, 20, 10}, {2, 0, 20, 30}}, []load{{2, 9}})
	for _, draws := range []int{9, 99} {
		n.Loads[0].Power = draws
		c := in(t, n, lacking(n), best(t, n, lacking(n)))
		for i := range lists(&c.deal) {
			for k, s := range *lists(&c.deal)[i] {
				for _, no := range unformed(s) {
					c.change(func(d *api.Deal) { (*lists(d)[i])[k] = no }, false)
				}
			}
		}
		for _, no := range unformed(c.deal.Cost) {
			c.change(func(d *api.Deal) { d.Cost = no }, false)
		}
	}
	n = network(1, nil, nil)
	c := in(t, n, nil, api.Deal{Angles: l("0"), Price: l("0"), Cost: "0"})
	for _, no := range unformed("0") {
		c.change(func(d *api.Deal) { d.Angles[0] = no }, false)
		c.change(func(d *api.Deal) { d.Price[0] = no }, false)
		c.change(func(d *api.Deal) { d.Cost = no }, false)
	}
}

// P8.1: a number has at most MaxLong bytes: prices and rents.
func TestLongPrices(t *testing.T) {
	n := network(2, []wire{{0, 1, 1, 0}}, []wire{{0, 1, 0, 0}})
	c := in(t, n, lacking(n), api.Deal{Angles: l("0", "0"), Flows: l("0"), Price: l("0", "0"), Rent: l("0"), Cost: "0"})
	for _, begin := range []string{"", "-", "1/", "-1/"} {
		s := begin + strings.Repeat("7", api.MaxLong-len(begin))
		c.change(func(d *api.Deal) { d.Price = l(s, s) }, true)
		c.change(func(d *api.Deal) { d.Rent = l(s) }, true)
		s += "7"
		c.change(func(d *api.Deal) { d.Price = l(s, s) }, false)
		c.change(func(d *api.Deal) { d.Rent = l(s) }, false)
	}
	n = with(network(1, nil, nil), nil, []load{{0, 3}})
	c = in(t, n, nil, api.Deal{None: true, Price: l("1"), Cost: "0"})
	c.change(func(d *api.Deal) { d.Price[0] = strings.Repeat("7", api.MaxLong) }, true)
	c.change(func(d *api.Deal) { d.Price[0] = strings.Repeat("7", api.MaxLong+1) }, false)
	c.change(func(d *api.Deal) { d.Price[0] = strings.Repeat("7", 1000000) }, false)
}

// P8.1: a number has at most MaxLong bytes: what is generated, angles and flows, shared out between two generators of the same cost.
func TestLongPowers(t *testing.T) {
	noughts := strings.Repeat("0", 497)
	shared := func(least, over, rest string) (string, string) { return least + "/" + over, rest + "/" + over }
	x, y := shared("1", "3"+noughts+"1", "15"+noughts+"4")  // 5 less one over 3*10^498+1
	w, v := shared("1", "10"+noughts+"1", "50"+noughts+"4") // 5 less one over 10^499+1
	if len(y) != api.MaxLong || len(v) != api.MaxLong+1 {
		t.Fatal(len(y), len(v))
	}
	n := with(network(1, nil, nil), []gen{{0, 0, 5, 2}, {0, 0, 5, 2}}, []load{{0, 5}})
	c := in(t, n, nil, api.Deal{Power: l("0", "5"), Angles: l("0"), Price: l("2"), Cost: "10"})
	c.change(func(d *api.Deal) { d.Power = l(x, y) }, true)
	c.change(func(d *api.Deal) { d.Power = l(y, x) }, true)
	c.change(func(d *api.Deal) { d.Power = l(y, y) }, false)
	c.change(func(d *api.Deal) { d.Power = l(w, v) }, false)
	c.change(func(d *api.Deal) { d.Power = l(v, w) }, false)
	n = with(network(2, []wire{{1, 0, 1, 5}}, nil), []gen{{0, 0, 5, 2}, {1, 0, 5, 2}}, []load{{0, 5}})
	c = in(t, n, lacking(n), api.Deal{Power: l("0", "5"), Angles: l("0", "5"), Flows: l("5"), Price: l("2", "2"), Rent: l("0"), Cost: "10"})
	c.change(func(d *api.Deal) { d.Power, d.Angles, d.Flows = l(x, y), l("0", y), l(y) }, true)
	n.Lines[0].From, n.Lines[0].To = 0, 1
	c.change(func(d *api.Deal) { d.Power, d.Angles, d.Flows = l(x, y), l("0", y), l("-"+y) }, false) // a byte too long
	c.change(func(d *api.Deal) { d.Power, d.Angles, d.Flows = l(y, x), l("0", x), l("-"+x) }, true)
}

// P8.3: which of several right deals it is says nothing: whoever costs as much may generate.
func TestSeveralRight(t *testing.T) {
	n := with(network(2, []wire{{0, 1, 1, 3}}, nil), []gen{{0, 0, 9, 4}, {1, 0, 9, 4}}, []load{{1, 5}})
	d := api.Deal{Power: l("0", "5"), Angles: l("0", "0"), Flows: l("0"), Price: l("4", "4"), Rent: l("0"), Cost: "20"}
	for _, k := range [][]string{{"0", "5"}, {"1", "4"}, {"3", "2"}, {"5/2", "5/2"}} {
		d.Power, d.Flows[0] = k, k[0]
		d.Angles[1] = "-" + k[0]
		if k[0] == "0" {
			d.Angles[1] = "0"
		}
		wantCheck(t, n, lacking(n), d, true)
	}
	d.Power, d.Flows, d.Angles = l("4", "1"), l("4"), l("0", "-4")
	wantCheck(t, n, lacking(n), d, false)
	if d := best(t, n, lacking(n)); d.Cost != "20" || !slices.Equal(d.Price, l("4", "4")) {
		t.Errorf("%+v", d)
	}
}
