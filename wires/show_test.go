package wires_test

import (
	"math"
	"math/rand/v2"
	"slices"
	"strconv"
	"strings"
	"testing"

	"gridworks/api"
	"gridworks/wires"
)

// shown: whether a network may be, and is told by this text.
func shown(t *testing.T, n api.Net, want string) {
	t.Helper()
	if s, e := wires.Show(n); s != want || e != api.OK {
		t.Errorf("Show(%+v): %q, %d; %q is wanted", n, s, e, want)
	}
	if !wires.May(n) {
		t.Errorf("%+v may be", n)
	}
}

// barred: whether a network may not be.
func barred(t *testing.T, why string, n api.Net) {
	t.Helper()
	if wires.May(n) {
		t.Errorf("%s: it may not be", why)
	}
	if s, e := wires.Show(n); s != "" || e != api.ErrState {
		t.Errorf("%s: Show: %.100q, %d", why, s, e)
	}
}

// P2.3: the one text of a network.
func TestShow(t *testing.T) {
	shown(t, small(), smallText)
	shown(t, api.Net{Name: "a"}, "net a\n")
	shown(t, api.Net{Name: "a", Buses: []string{}, Lines: []api.Line{}, Gens: []api.Gen{}, Loads: []api.Load{}, Ties: []api.Tie{}}, "net a\n")
	shown(t, api.Net{Name: "é", Buses: []string{"é", "e"}}, "net é\nbus é\nbus e\n")
	mixed := "net town\r\n\nbus x # first\nload d x 008\nbus\ty\nline a x y 0001 10\ntie s y x closed\ngen h x 0 0 00\nbus z\nload e z 0"
	shown(t, must(t, mixed), "net town\nbus x\nbus y\nbus z\nline a x y 1 10\ngen h x 0 0 0\nload d x 8\nload e z 0\ntie s y x closed\n")
}

// P2.3: a network as great as may be is told within MaxText, and comes back.
func TestShowFull(t *testing.T) {
	n := full()
	s, e := wires.Show(n)
	if e != api.OK || len(s) > api.MaxText || !wires.May(n) || !equal(must(t, s), n) {
		t.Error(len(s), e)
	}
}

// bend: one thing in a network, and why it may not be then.
type bend struct {
	why string
	how func(n *api.Net)
}

// P2.3: numbers and places of each kind of thing beyond their limits.
func TestBarredNumbers(t *testing.T) {
	for _, b := range []bend{
		{"line from -1", func(n *api.Net) { n.Lines[1].From = -1 }},
		{"line from 3", func(n *api.Net) { n.Lines[1].From = 3 }},
		{"line to -1", func(n *api.Net) { n.Lines[0].To = -1 }},
		{"line to 3", func(n *api.Net) { n.Lines[0].To = 3 }},
		{"line to the greatest", func(n *api.Net) { n.Lines[0].To = math.MaxInt }},
		{"line from the least", func(n *api.Net) { n.Lines[0].From = math.MinInt }},
		{"line from where it leads to", func(n *api.Net) { n.Lines[0].To = 0 }},
		{"line without worth", func(n *api.Net) { n.Lines[0].Worth = 0 }},
		{"line's worth -1", func(n *api.Net) { n.Lines[0].Worth = -1 }},
		{"line's worth", func(n *api.Net) { n.Lines[0].Worth = api.MaxWorth + 1 }},
		{"line's limit -1", func(n *api.Net) { n.Lines[1].Limit = -1 }},
		{"line's limit", func(n *api.Net) { n.Lines[1].Limit = api.MaxPower + 1 }},
		{"line's limit, the least", func(n *api.Net) { n.Lines[1].Limit = math.MinInt }},
		{"gen at -1", func(n *api.Net) { n.Gens[1].Bus = -1 }},
		{"gen at 3", func(n *api.Net) { n.Gens[1].Bus = 3 }},
		{"gen's least -1", func(n *api.Net) { n.Gens[0].Least = -1 }},
		{"gen's least above its most", func(n *api.Net) { n.Gens[0].Least = 71 }},
		{"gen's most below its least", func(n *api.Net) { n.Gens[0].Most = 4 }},
		{"gen's most -1", func(n *api.Net) { n.Gens[1].Most = -1 }},
		{"gen's most", func(n *api.Net) { n.Gens[0].Most = api.MaxPower + 1 }},
		{"gen's least and most", func(n *api.Net) { n.Gens[0].Least, n.Gens[0].Most = api.MaxPower+1, api.MaxPower+1 }},
		{"gen's cost -1", func(n *api.Net) { n.Gens[0].Cost = -1 }},
		{"gen's cost", func(n *api.Net) { n.Gens[0].Cost = api.MaxCost + 1 }},
		{"gen's cost, the greatest", func(n *api.Net) { n.Gens[0].Cost = math.MaxInt }},
		{"load at -1", func(n *api.Net) { n.Loads[1].Bus = -1 }},
		{"load at 3", func(n *api.Net) { n.Loads[1].Bus = 3 }},
		{"load's power -1", func(n *api.Net) { n.Loads[1].Power = -1 }},
		{"load's power", func(n *api.Net) { n.Loads[1].Power = api.MaxPower + 1 }},
		{"tie from -1", func(n *api.Net) { n.Ties[0].From = -1 }},
		{"tie from 3", func(n *api.Net) { n.Ties[0].From = 3 }},
		{"tie to -1", func(n *api.Net) { n.Ties[1].To = -1 }},
		{"tie to 3", func(n *api.Net) { n.Ties[1].To = 3 }},
		{"tie from where it leads to", func(n *api.Net) { n.Ties[1].To = 2 }},
		{"no buses", func(n *api.Net) { n.Buses = nil }},
	} {
		n := small()
		b.how(&n)
		barred(t, b.why, n)
	}
}

// P2.3: names that are none, or taken, of each kind of thing.
func TestBarredNames(t *testing.T) {
	places := []func(n *api.Net) *string{
		func(n *api.Net) *string { return &n.Name },
		func(n *api.Net) *string { return &n.Buses[1] },
		func(n *api.Net) *string { return &n.Lines[1].Name },
		func(n *api.Net) *string { return &n.Gens[1].Name },
		func(n *api.Net) *string { return &n.Loads[1].Name },
		func(n *api.Net) *string { return &n.Ties[1].Name },
	}
	for i, place := range places {
		for _, name := range []string{
			"", "1", "a b", " q", "q ", "q\t", "\rq", "q\n", "\nq", "q#", "#", "q # a remark", "q\nbus r", "q 1", "ɐ", "\xff", "q\xff", strings.Repeat("q", api.MaxName+1), strings.Repeat("q", api.MaxText+1),
			"q z x 20 0 #", "q x 0 0 0 #", "q y 0 #", "q z y open #", "q z y open\nload q2 y 0 #",
		} {
			n := small()
			*place(&n) = name
			barred(t, strconv.Itoa(i)+" named "+name, n)
		}
		for _, name := range []string{"x", "a", "g", "d", "s"} {
			n := small()
			*place(&n) = name
			if i > 0 {
				barred(t, strconv.Itoa(i)+" named "+name, n)
			} else if !wires.May(n) {
				t.Errorf("the network's own name may be %q", name)
			}
		}
		n := small()
		*place(&n) = "ÿ_" + strings.Repeat("9", api.MaxName-2)
		if !wires.May(n) {
			t.Errorf("%d may be named so: %+v", i, n)
		}
	}
	barred(t, "zero", api.Net{})
}

// P2.3: more of a kind than may be.
func TestBarredCounts(t *testing.T) {
	for _, b := range []bend{
		{"buses", func(n *api.Net) { n.Buses = append(n.Buses, "more") }},
		{"lines", func(n *api.Net) { n.Lines = append(n.Lines, api.Line{Name: "more", To: 1, Worth: 1}) }},
		{"gens", func(n *api.Net) { n.Gens = append(n.Gens, api.Gen{Name: "more"}) }},
		{"loads", func(n *api.Net) { n.Loads = append(n.Loads, api.Load{Name: "more"}) }},
		{"ties", func(n *api.Net) { n.Ties = append(n.Ties, api.Tie{Name: "more", To: 1}) }},
		{"very many buses", func(n *api.Net) { n.Buses = make([]string, 1<<22) }},
		{"very many ties", func(n *api.Net) { n.Ties = make([]api.Tie, 1<<20) }},
		{"a very long name", func(n *api.Net) { n.Buses[0] = strings.Repeat("x", 1<<24) }},
	} {
		n := full()
		b.how(&n)
		barred(t, b.why, n)
	}
}

// anyNet: a network that may be.
func anyNet(d *rand.Rand) api.Net {
	n := api.Net{Name: "é1"}
	b := 2 + d.IntN(api.MaxBuses-1)
	names := []string{"a", "_", "Ä", "z0", "bus", "open", "ɏ"}
	count := 0
	name := func() string {
		count++
		return names[d.IntN(len(names))] + strconv.Itoa(count)
	}
	two := func() (int, int) {
		x := d.IntN(b)
		return x, (x + 1 + d.IntN(b-1)) % b
	}
	for range b {
		n.Buses = append(n.Buses, name())
	}
	for range d.IntN(api.MaxLines + 1) {
		x, y := two()
		n.Lines = append(n.Lines, api.Line{Name: name(), From: x, To: y, Worth: 1 + d.IntN(api.MaxWorth), Limit: d.IntN(api.MaxPower + 1)})
	}
	for range d.IntN(api.MaxGens + 1) {
		least := d.IntN(api.MaxPower + 1)
		n.Gens = append(n.Gens, api.Gen{Name: name(), Bus: d.IntN(b), Least: least, Most: least + d.IntN(api.MaxPower+1-least), Cost: d.IntN(api.MaxCost + 1)})
	}
	for range d.IntN(api.MaxLoads + 1) {
		n.Loads = append(n.Loads, api.Load{Name: name(), Bus: d.IntN(b), Power: d.IntN(api.MaxPower + 1)})
	}
	for range d.IntN(api.MaxTies + 1) {
		x, y := two()
		n.Ties = append(n.Ties, api.Tie{Name: name(), From: x, To: y, Closed: d.IntN(2) == 0})
	}
	return n
}

// P2.3, what comes of it: what is shown is read as the same network, and shown again as the same text.
func TestThereAndBack(t *testing.T) {
	d := rand.New(rand.NewPCG(2, 1))
	for range 300 {
		n := anyNet(d)
		s, e := wires.Show(n)
		if e != api.OK || !equal(must(t, s), n) {
			t.Fatalf("Show(%+v): %q, %d", n, s, e)
		}
		bent := strings.ReplaceAll(strings.ReplaceAll(s, " ", "\t \r"), "\n", " # remark\n\n")
		shown(t, must(t, bent), s)
		if strings.Contains(s, "  ") || strings.Contains(s, "\n\n") || !strings.HasSuffix(s, "\n") {
			t.Errorf("Show(%+v): %q", n, s)
		}
	}
}

// P2.2: bent texts: what is wrong hangs on the lines up to it alone, and what is read may be.
func TestBentTexts(t *testing.T) {
	d := rand.New(rand.NewPCG(2, 2))
	words := []string{"", "x", "b0", "1", "-1", "0", "100001", "9999999999", "open", "closed", "line", "bus", "net", "tie", "é", "1x", "#", "\n", "\xff", "\v"}
	wrong := 0
	for range 3000 {
		s, _ := wires.Show(anyNet(d))
		l := strings.Split(s, "\n")
		for range 1 + d.IntN(2) {
			i := d.IntN(len(l))
			w := strings.Split(l[i], " ")
			w[d.IntN(len(w))] = words[d.IntN(len(words))]
			l[i] = strings.Join(w, " ")
		}
		bent := strings.Join(l, "\n")
		n, f := wires.Read(bent)
		if f == (api.Fault{}) {
			if !wires.May(n) {
				t.Errorf("Read(%q): %+v may not be", bent, n)
			}
			continue
		}
		wrong++
		l = strings.Split(bent, "\n")
		if f.At < 1 || f.At > len(l) {
			t.Fatalf("Read(%q): %+v", bent, f)
		}
		refused(t, strings.Join(l[:f.At], "\n"), f.Code, f.At)
		refused(t, strings.Join(l[:f.At], "\n")+"\nbus\nnet\nbus 1", f.Code, f.At)
		ahead := strings.Join(l[:f.At-1], "\n")
		_, g := wires.Read(ahead)
		if _, h := wires.Read(ahead + "\nnet q"); g.Code != api.OK && h.Code != api.OK { // all that may be wrong ahead of it is that there is no net
			t.Errorf("Read(%q): %+v, but %+v ahead of it", bent, f, g)
		}
	}
	if wrong < 1000 {
		t.Error("too few texts were wrong:", wrong)
	}
}

// What holds everywhere: what is handed in stays as it is, spare room too.
func TestShowChangesNothing(t *testing.T) {
	n := small()
	room := append(slices.Clone(n.Buses), "spare")
	n.Buses = room[:3]
	kept := copied(n)
	wires.Show(n)
	wires.May(n)
	if !equal(n, kept) || room[3] != "spare" {
		t.Errorf("%+v was changed to %+v, %q", kept, n, room)
	}
}
