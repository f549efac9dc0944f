package wires_test

import (
	"slices"
	"strconv"
	"strings"
	"testing"

	"gridworks/api"
)

// P2.2: the chapter's example.
func TestExample(t *testing.T) {
	n := must(t, "net a\nbus x\nbus y\nline l x y 20 100")
	want := api.Net{Name: "a", Buses: []string{"x", "y"}, Lines: []api.Line{{Name: "l", From: 0, To: 1, Worth: 20, Limit: 100}}}
	if !equal(n, want) {
		t.Errorf("%+v", n)
	}
}

// P2.2: all in the order of the text, kinds mixed; buses are told by their places.
func TestOrderOfTheText(t *testing.T) {
	n := must(t, "net town\nbus x\nload d x 8\nbus y\nline a x y 1 10\ntie s y x open\ngen h x 0 0 0\nbus z\ngen g z 5 70 30\nline b z x 20 0\nload e z 1\ntie r z y closed")
	want := api.Net{
		Name:  "town",
		Buses: []string{"x", "y", "z"},
		Lines: []api.Line{{Name: "a", From: 0, To: 1, Worth: 1, Limit: 10}, {Name: "b", From: 2, To: 0, Worth: 20, Limit: 0}},
		Gens:  []api.Gen{{Name: "h", Bus: 0}, {Name: "g", Bus: 2, Least: 5, Most: 70, Cost: 30}},
		Loads: []api.Load{{Name: "d", Bus: 0, Power: 8}, {Name: "e", Bus: 2, Power: 1}},
		Ties:  []api.Tie{{Name: "s", From: 1, To: 0}, {Name: "r", From: 2, To: 1, Closed: true}},
	}
	if !equal(n, want) {
		t.Errorf("%+v; %+v is wanted", n, want)
	}
}

// P2.2: blanks, remarks and lines without words say nothing.
func TestSameNetwork(t *testing.T) {
	want := small()
	crlf := strings.ReplaceAll(smallText, "\n", "\r\n")
	for _, s := range []string{
		smallText,
		strings.TrimSuffix(smallText, "\n"),
		crlf,
		strings.ReplaceAll(smallText, " ", "\t"),
		strings.ReplaceAll(smallText, " ", " \t\r  "),
		strings.ReplaceAll(smallText, "\n", " \n\t "),
		strings.ReplaceAll(smallText, "\n", "\n\n \r\t\n"),
		strings.ReplaceAll(smallText, "\n", "#\n"),
		strings.ReplaceAll(smallText, "\n", "# net a # b \xff \v\n"),
		strings.ReplaceAll(smallText, "\n", "\n# bus q\n\t #\n"),
		"\n\n# a remark\n" + smallText + "\n\n# net again",
		"\t\r net\ttown #\n" + strings.TrimPrefix(smallText, "net town\n"),
	} {
		if n := must(t, s); !equal(n, want) {
			t.Errorf("Read(%q): %+v; %+v is wanted", s, n, want)
		}
	}
}

// P2.2: a net alone.
func TestNetAlone(t *testing.T) {
	if n := must(t, "net a"); !equal(n, api.Net{Name: "a"}) {
		t.Errorf("%+v", n)
	}
}

// P2.2: the first word, how many words there are, and the net that must come first, once.
func TestFormOfLines(t *testing.T) {
	for _, l := range []string{
		"x", "Net a", "BUS q", "nets", "node q", "1", "\xff", "bus\vq", "bus\u00a0q", "-", "busq", "open",
		"net", "net n", "net m", "net a b", "net 1",
		"bus", "bus q r", "bus q x", "bus 1 2",
		"line", "line l", "line l x y 1", "line l x y 1 1 1", "line l x x", "line 1 q q q",
		"gen", "gen g x 0 1", "gen g x 0 1 1 1", "gen 1",
		"load", "load d x", "load d x 1 1", "load 1 q",
		"tie", "tie s x y", "tie s x y open open", "tie s x y z open",
	} {
		refused(t, text(l), api.ErrForm, 4)
		refused(t, text(l+" # a remark"), api.ErrForm, 4)
		refused(t, text("", "# a remark", "\t", l, "more that is wrong"), api.ErrForm, 7)
	}
	for _, l := range append(kinds(), "bus 1", "load x x x", "gen a b c d e") {
		refused(t, strings.ReplaceAll(l, "NAME", "q")+"\nnet n", api.ErrForm, 1)
		refused(t, "\n# net n\n"+l, api.ErrForm, 3)
	}
	refused(t, "net a\nnet a", api.ErrForm, 2)
	refused(t, "net a\nbus x\nnet b", api.ErrForm, 3)
	refused(t, "net", api.ErrForm, 1)
	refused(t, "net a b", api.ErrForm, 1)
	refused(t, "net #a", api.ErrForm, 1)
}

// P2.2: a text without a net is wrong at its last line.
func TestWithoutNet(t *testing.T) {
	refused(t, "", api.ErrForm, 1)
	refused(t, "\n", api.ErrForm, 2)
	refused(t, "\n\n\n", api.ErrForm, 4)
	refused(t, " \t\r", api.ErrForm, 1)
	refused(t, "# net a", api.ErrForm, 1)
	refused(t, "# net a\n#\n", api.ErrForm, 3)
	refused(t, "\r\n\r\n ", api.ErrForm, 3)
	refused(t, strings.Repeat("\n", api.MaxText), api.ErrForm, api.MaxText+1)
}

// P2.2: names that are taken, by whatever kind.
func TestTwice(t *testing.T) {
	head := []string{"line l x y 1 1", "gen g x 0 1 1", "load d x 1", "tie s x y open"}
	for _, k := range kinds() {
		for _, name := range []string{"x", "y", "l", "g", "d", "s"} {
			refused(t, text(append(slices.Clone(head), strings.ReplaceAll(k, "NAME", name))...), api.ErrTwice, 8)
		}
		for _, name := range []string{"n", "X", "ll", "x_", "é"} { // n: the network's own
			refused(t, text(append(slices.Clone(head), strings.ReplaceAll(k, "NAME", name))...), api.OK, 0)
		}
	}
	refused(t, text("bus E", "bus e", "bus É", "bus é", "bus e\u0301"), api.ErrName, 8)
	refused(t, text("bus é", "load é x 1"), api.ErrTwice, 5)
}

// P2.2: buses that were not told ahead, and a bus that is told twice.
func TestBuses(t *testing.T) {
	for _, l := range []string{
		"line l q y 1 1", "line l x q 1 1", "line l q q 1 1", "line l l y 1 1", "line l x l 1 1", "line l n y 1 1", "line l X y 1 1", "line l x 1 1 1", "line l 0 1 1 1", "line l x \xff 1 1",
		"gen g q 0 1 1", "gen g g 0 1 1", "gen g 0 0 1 1", "gen g k 0 1 1", "gen g x_ 0 1 1",
		"load d q 1", "load d n 1", "load d " + strings.Repeat("x", 17) + " 1", "load d k 1", "load d late 1",
		"tie s q y open", "tie s x q open", "tie s x k open", "tie s late x open",
	} {
		refused(t, text("load k x 1", l, "bus late"), api.ErrNone, 5)
	}
	for _, l := range []string{"line l x x 1 1", "line l y y 1 1", "tie s x x open", "tie s y y closed", "line l x x z z", "tie s x x z"} {
		refused(t, text(l), api.ErrKind, 4)
	}
	refused(t, text("line l y x 1 1", "tie s y x open", "line m x y 1 1"), api.OK, 0)
}

// P2.2: in a line the words go from the left, and of a word what is told first.
func TestFromTheLeft(t *testing.T) {
	for _, c := range []struct {
		line string
		want api.Errno
	}{
		{"line 1 q q z z", api.ErrName}, {"line x q q z z", api.ErrTwice}, {"line l q q z z", api.ErrNone}, {"line l x q z z", api.ErrNone}, {"line l q x z z", api.ErrNone},
		{"line l x x z z", api.ErrKind}, {"line l x y z 100001", api.ErrForm}, {"line l x y 0 z", api.ErrRange}, {"line l x y 1 z", api.ErrForm}, {"line l x y 10001 100001", api.ErrRange},
		{"gen 1 q z z z", api.ErrName}, {"gen y q z z z", api.ErrTwice}, {"gen g q z z z", api.ErrNone}, {"gen g x z 100001 z", api.ErrForm}, {"gen g x 100001 z z", api.ErrRange},
		{"gen g x 5 z 100001", api.ErrForm}, {"gen g x 5 4 z", api.ErrRange}, {"gen g x 5 5 z", api.ErrForm}, {"gen g x 5 5 100001", api.ErrRange},
		{"load 1 q z", api.ErrName}, {"load x q z", api.ErrTwice}, {"load d q z", api.ErrNone}, {"load d x z", api.ErrForm}, {"load d x 100001", api.ErrRange},
		{"tie 1 q q z", api.ErrName}, {"tie x q q z", api.ErrTwice}, {"tie s q q z", api.ErrNone}, {"tie s x x z", api.ErrKind}, {"tie s x y z", api.ErrForm},
	} {
		refused(t, text(c.line), c.want, 4)
		refused(t, text("", c.line, "bus", "bus x"), c.want, 5)
	}
	refused(t, "net 1\nbus", api.ErrName, 1)
	refused(t, "bus x\nnet 1", api.ErrForm, 1)
}

// P2.2: of each kind as many as may be, and one more.
func TestFull(t *testing.T) {
	for _, c := range []struct {
		form string
		have int
		most int
	}{
		{"bus NAME", 2, api.MaxBuses}, {"line NAME x y 1 1", 0, api.MaxLines}, {"gen NAME x 0 1 1", 0, api.MaxGens}, {"load NAME x 1", 0, api.MaxLoads}, {"tie NAME x y open", 0, api.MaxTies},
	} {
		var l []string
		for i := c.have; i < c.most; i++ {
			l = append(l, strings.ReplaceAll(c.form, "NAME", "k"+strconv.Itoa(i)))
		}
		at := 3 + len(l) + 1
		refused(t, text(l...), api.OK, 0)
		with := func(name string) string {
			return text(append(slices.Clone(l), strings.ReplaceAll(c.form, "NAME", name))...)
		}
		refused(t, with("more"), api.ErrFull, at)
		refused(t, with("1"), api.ErrName, at)
		refused(t, with("x"), api.ErrTwice, at)
		refused(t, with("k"+strconv.Itoa(c.most-1)), api.ErrTwice, at)
		refused(t, with("more")+" more", api.ErrForm, at)
		if c.have == 0 {
			refused(t, strings.ReplaceAll(with("more"), "more x", "more nowhere"), api.ErrFull, at)
		}
		for _, k := range kinds() { // another kind is not full
			if k != c.form {
				refused(t, text(append(slices.Clone(l), strings.ReplaceAll(k, "NAME", "more"))...), api.OK, 0)
			}
		}
	}
}

// P2.2: MaxText bytes are read, one more is not, whatever they are.
func TestSize(t *testing.T) {
	s := text("line l x y 1 1") + "\n#"
	s += strings.Repeat("é", (api.MaxText-len(s))/2)
	s += strings.Repeat(".", api.MaxText-len(s))
	if n := must(t, s); len(n.Lines) != 1 {
		t.Errorf("%+v", n)
	}
	refused(t, s+".", api.ErrSize, 0)
	refused(t, s+"\n", api.ErrSize, 0)
	refused(t, strings.Repeat("x", api.MaxText), api.ErrForm, 1)
	refused(t, strings.Repeat("x", api.MaxText+1), api.ErrSize, 0)
	refused(t, strings.Repeat("\n", api.MaxText+1), api.ErrSize, 0)
	refused(t, "net 1\n"+strings.Repeat(" ", 1000000), api.ErrSize, 0)
}

// What holds everywhere: what comes out is new memory, spare room too.
func TestReadKeepsNothing(t *testing.T) {
	a, b := must(t, smallText), must(t, smallText)
	a.Buses[0], a.Lines[0], a.Gens[0], a.Loads[0], a.Ties[0] = "q", api.Line{}, api.Gen{}, api.Load{}, api.Tie{}
	for _, n := range []api.Net{b, must(t, smallText)} {
		if !equal(n, small()) {
			t.Errorf("what was answered once is seen in %+v", n)
		}
	}
	grown, other := append(a.Buses, "more"), append(b.Buses, "other")
	if grown[3] != "more" || other[3] != "other" {
		t.Error("spare room is shared:", grown, other)
	}
}
