package wires_test

import (
	"strings"
	"testing"

	"gridworks/api"
	"gridworks/wires"
)

// kinds: of each kind of line a form in which a name is to be laid.
func kinds() []string {
	return []string{"bus NAME", "line NAME x y 1 1", "gen NAME x 0 1 1", "load NAME x 1", "tie NAME x y open"}
}

// named: what Read answers when something, of each kind, has this name.
func named(t *testing.T, name string, want api.Errno) {
	t.Helper()
	for _, k := range kinds() {
		at := 0
		if want != api.OK {
			at = 4
		}
		refused(t, text(strings.ReplaceAll(k, "NAME", name)), want, at)
	}
	_, f := wires.Read("net " + name)
	if f.Code != want {
		t.Errorf("Read(net %q): %+v; %d is wanted", name, f, want)
	}
}

// P2.1: each rune, as the first letter and as another one.
func TestEachLetter(t *testing.T) {
	const plain = "abcdefghijklmnopqrstuvwxyzABCDEFGHIJKLMNOPQRSTUVWXYZ_"
	for r := rune(0); r < 0x400; r++ {
		if strings.ContainsRune("\t\n\r #", r) { // these part words, lines and remarks
			continue
		}
		first := strings.ContainsRune(plain, r) || r >= 0xC0 && r <= 0x24F && r != 0xD7 && r != 0xF7
		later := first || strings.ContainsRune("0123456789", r)
		for _, c := range []struct {
			name string
			may  bool
		}{{string(r), first}, {string(r) + "q", first}, {"q" + string(r), later}, {"q" + string(r) + "q", later}} {
			n, f := wires.Read("net n\nbus " + c.name)
			if c.may && (f != (api.Fault{}) || len(n.Buses) != 1 || n.Buses[0] != c.name) {
				t.Errorf("%q is a name: %+v, %+v", c.name, n, f)
			}
			if !c.may && f != (api.Fault{Code: api.ErrName, At: 2}) {
				t.Errorf("%q is no name: %+v, %+v", c.name, n, f)
			}
		}
	}
}

// P2.1: names of all kinds of things: how long they are, and how they are told.
func TestNames(t *testing.T) {
	for _, s := range []string{
		"a", "Z", "_", "__", "a1", "_0", "z0123456789", "ß", "é9", "À", "ɏ",
		strings.Repeat("w", api.MaxName), strings.Repeat("w", api.MaxName-1) + "0", strings.Repeat("ø", api.MaxName), "x" + strings.Repeat("ɏ", api.MaxName-1),
		"net", "bus", "line", "gen", "load", "tie", "open", "closed",
	} {
		named(t, s, api.OK)
	}
	for _, s := range []string{
		"0", "1x", "9é", "-", "a-b", "a.b", "x/y", "a,", "\"a\"", "é×", "÷", "×", "a÷b", "¿", "ɐ", "aɐ", "я", "x\u0301", "\u212a", "日本", "\U0001f600", "\u00a0", "a\u00a0b", "a\vb", "a\f", "a\x00",
		strings.Repeat("w", api.MaxName+1), strings.Repeat("ø", api.MaxName+1), strings.Repeat("w", 5000),
		"\xff", "a\xff", "\xc3", "a\xc3", "\xc3a", "\xe9", "a\xe9b", "\xc1\xa1", "\xe0\x83\xa9", "\xed\xa0\x80", "\xef\xbf\xbd", "a\x80",
	} {
		named(t, s, api.ErrName)
	}
}

// P2.1: numbers, each with its limits.
func TestNumbers(t *testing.T) {
	for _, c := range []struct {
		form        string
		least, most string
		below       string // what is too little; "": nothing is
		above       string
	}{
		{"line l x y N 5", "1", "10000", "0", "10001"},
		{"line l x y 5 N", "0", "100000", "", "100001"},
		{"gen g x N 100000 5", "0", "100000", "", "100001"},
		{"gen g x 0 N 5", "0", "100000", "", "100001"},
		{"gen g x 70 N 5", "70", "100000", "69", "100001"},
		{"gen g x N 70 5", "0", "70", "", "100001"},
		{"gen g x 0 5 N", "0", "100000", "", "100001"},
		{"load d x N", "0", "100000", "", "100001"},
	} {
		laid := func(n string) string { return text(strings.ReplaceAll(c.form, "N", n)) }
		for _, n := range []string{c.least, c.most, "00" + c.least, "000000070"} {
			refused(t, laid(n), api.OK, 0)
		}
		for _, n := range []string{c.below, c.above, "999999999", "0" + c.above} {
			if n != "" {
				refused(t, laid(n), api.ErrRange, 4)
			}
		}
		for _, n := range []string{"0000000070", "9999999999", "99999999999999999999", "-1", "-0", "+1", "1.0", "1/1", "1_0", "0x1", "1e1", "x", "1x", "x1", "\u0661", "\uff11", "1\u00a0", "1\v", "\xff", "1\xff", "open", ":", "/"} {
			refused(t, laid(n), api.ErrForm, 4)
		}
	}
}

// P2.1: what numbers tell, with noughts ahead or without.
func TestNumbersTell(t *testing.T) {
	n := must(t, text("line l x y 0020 000000100", "gen g y 007 08 0", "load d x 00000"))
	want := api.Net{
		Name: "n", Buses: []string{"x", "y"},
		Lines: []api.Line{{Name: "l", From: 0, To: 1, Worth: 20, Limit: 100}},
		Gens:  []api.Gen{{Name: "g", Bus: 1, Least: 7, Most: 8, Cost: 0}},
		Loads: []api.Load{{Name: "d", Bus: 0, Power: 0}},
	}
	if !equal(n, want) {
		t.Errorf("%+v; %+v is wanted", n, want)
	}
	refused(t, text("gen g x 8 7 0"), api.ErrRange, 4)
	refused(t, text("gen g x 100000 99999 0"), api.ErrRange, 4)
}

// P2.1: a tie is open or closed.
func TestStates(t *testing.T) {
	n := must(t, text("tie s x y open", "tie t y x closed"))
	if n.Ties[0].Closed || !n.Ties[1].Closed {
		t.Error(n.Ties)
	}
	for _, s := range []string{"Open", "CLOSED", "close", "opened", "op", "0", "1", "true", "x", "closed\v", "open,", "\xff"} {
		refused(t, text("tie s x y "+s), api.ErrForm, 4)
	}
}
