package exact_test

import (
	"cmp"
	"math/big"
	"strings"
	"testing"

	"gridworks/api"
	"gridworks/exact"
)

// P1.2: ordinary numbers.
func TestSumsAndProducts(t *testing.T) {
	for _, c := range []struct{ a, b, add, sub, mul, div string }{
		{"1/2", "1/3", "5/6", "1/6", "1/6", "3/2"},
		{"1/2", "1/2", "1", "0", "1/4", "1"},
		{"1/2", "-1/2", "0", "1", "-1/4", "-1"},
		{"-3/2", "2/3", "-5/6", "-13/6", "-1", "-9/4"},
		{"6", "4", "10", "2", "24", "3/2"},
		{"4", "6", "10", "-2", "24", "2/3"},
		{"0", "5", "5", "-5", "0", "0"},
		{"-4", "-2", "-6", "-2", "8", "2"},
		{"1", "-3", "-2", "4", "-3", "-1/3"},
		{"9223372036854775807", "1", "9223372036854775808", "9223372036854775806", "9223372036854775807", "9223372036854775807"},
	} {
		for i, f := range binaries() {
			want := []string{c.add, c.sub, c.mul, c.div}[i]
			if s, e := f.call(c.a, c.b); s != want || e != api.OK {
				t.Errorf("%s(%q, %q): %q, %d; %q is wanted", f.name, c.a, c.b, s, e, want)
			}
		}
	}
}

// P1.2: which is greater.
func TestOrder(t *testing.T) {
	rising := []string{"-10", "-3", "-5/2", "-7/3", "-1/1000", "0", "1/1000", "1/3", "2/5", "1/2", "9", "10", "100000000000000000000"}
	for i, a := range rising {
		for j, b := range rising {
			want := 0
			if i < j {
				want = -1
			} else if i > j {
				want = 1
			}
			if c, e := exact.Cmp(a, b); c != want || e != api.OK {
				t.Errorf("Cmp(%q, %q): %d, %d; %d is wanted", a, b, c, e, want)
			}
		}
	}
}

// P1.2: all small fractions with each other, by whole numbers alone.
func TestAllSmallFractions(t *testing.T) {
	type small struct{ over, under int }
	var l []small
	for under := 1; under <= 6; under++ {
		for over := -7; over <= 7; over++ {
			l = append(l, small{over, under})
		}
	}
	for _, x := range l {
		for _, y := range l {
			a, b := form(x.over, x.under), form(y.over, y.under)
			p, q := x.over*y.under, y.over*x.under
			want := []string{form(p+q, x.under*y.under), form(p-q, x.under*y.under), form(x.over*y.over, x.under*y.under), ""}
			if y.over != 0 {
				want[3] = form(p, q)
			}
			for i, f := range binaries() {
				if s, _ := f.call(a, b); s != want[i] {
					t.Errorf("%s(%q, %q): %q; %q is wanted", f.name, a, b, s, want[i])
				}
			}
			if c, e := exact.Cmp(a, b); c != cmp.Compare(p, q) || e != api.OK {
				t.Errorf("Cmp(%q, %q): %d, %d", a, b, c, e)
			}
		}
	}
}

// P1.2: many numbers, short and long.
func TestManySums(t *testing.T) {
	d := draw(2)
	for i := range 2000 {
		n := []int{1, 3, 20, 450}[i%4]
		a, b := d.number(n), d.number(n)
		x, y := rat(t, a), rat(t, b)
		for _, f := range binaries() {
			if f.name == "Div" && y.Sign() == 0 {
				continue
			}
			want := f.want(new(big.Rat), x, y).RatString()
			if s, e := f.call(a, b); s != want || e != api.OK {
				t.Errorf("%s(%q, %q): %q, %d; %q is wanted", f.name, a, b, s, e, want)
			}
		}
		if c, e := exact.Cmp(a, b); c != x.Cmp(y) || e != api.OK {
			t.Errorf("Cmp(%q, %q): %d, %d", a, b, c, e)
		}
	}
}

// P1.2: texts that are no numbers in form, on either side.
func TestNotInForm(t *testing.T) {
	for _, bad := range []string{
		"", "-", "-0", "00", "01", "-01", "+1", "1.5", "1.0", "0.5", ".5", "5.", " 1", "1 ", "x",
		"2/4", "-2/4", "4/2", "1/1", "5/1", "0/1", "0/5", "-0/5", "1/0", "0/0", "-1/0", "1/02", "01/2", "/2", "1/", "1/-2", "-1/-2", "1/2/3", "1/1.5",
		"1e3", "1_0", "0x1", "\u0661", "\xff",
	} {
		for name, e := range refusals(t, bad, "1") {
			if e != api.ErrForm {
				t.Errorf("%s(%q, 1): error %d", name, bad, e)
			}
		}
		for name, e := range refusals(t, "1", bad) {
			if e != api.ErrForm {
				t.Errorf("%s(1, %q): error %d", name, bad, e)
			}
		}
	}
}

// P1.2: a short text is taken just if Read would give it back.
func TestAllShortTextsInForm(t *testing.T) {
	allTexts("-./0126", 4, func(s string) {
		want := api.ErrForm
		if form, e := told(s); e == api.OK && form == s {
			want = api.OK
		}
		for name, e := range refusals(t, s, "1") {
			if e != want {
				t.Errorf("%s(%q, 1): error %d; %d is wanted", name, s, e, want)
			}
		}
	})
}

// P1.2: nothing over nought.
func TestDivByZero(t *testing.T) {
	for _, a := range []string{"0", "1", "-5/7", strings.Repeat("9", api.MaxLong)} {
		for name, e := range refusals(t, a, "0") {
			want := api.OK
			if name == "Div" {
				want = api.ErrZero
			}
			if e != want {
				t.Errorf("%s(%.20q, 0): error %d; %d is wanted", name, a, e, want)
			}
		}
	}
	if s, e := exact.Div("0", "-5/7"); s != "0" || e != api.OK {
		t.Error(s, e)
	}
}

// P1.2: MaxLong bytes are taken, and what comes of them may be longer; one byte more is not, whatever it is.
func TestLongNumbers(t *testing.T) {
	long := strings.Repeat("9", api.MaxLong)
	under := "1/1" + strings.Repeat("0", api.MaxLong-3)
	for _, c := range []struct {
		name, a, b, want string
	}{
		{"Add", long, "1", "1" + strings.Repeat("0", api.MaxLong)},
		{"Sub", "0", long, "-" + long},
		{"Mul", long, "10", long + "0"},
		{"Mul", long, long, strings.Repeat("9", api.MaxLong-1) + "8" + strings.Repeat("0", api.MaxLong-1) + "1"},
		{"Div", "1", long, "1/" + long},
		{"Div", "-" + long[1:], under, "-" + long[1:] + strings.Repeat("0", api.MaxLong-3)},
		{"Add", under, under, "1/5" + strings.Repeat("0", api.MaxLong-4)},
	} {
		for _, f := range binaries() {
			if f.name != c.name {
				continue
			}
			if s, e := f.call(c.a, c.b); s != c.want || e != api.OK {
				t.Errorf("%s(%.10q, %.10q): %q, %d", c.name, c.a, c.b, s, e)
			}
		}
	}
	if c, e := exact.Cmp(long, under); c != 1 || e != api.OK {
		t.Error(c, e)
	}
	for _, tooLong := range []string{long + "9", "-" + long, strings.Repeat("0", api.MaxLong+1), strings.Repeat("x", api.MaxLong+1), strings.Repeat("é", api.MaxLong/2+1), strings.Repeat("1", 100000)} {
		for _, other := range []string{"1", "0", "x", "", long} {
			for name, e := range refusals(t, tooLong, other) {
				if e != api.ErrSize {
					t.Errorf("%s(%d bytes, %.10q): error %d", name, len(tooLong), other, e)
				}
			}
			for name, e := range refusals(t, other, tooLong) {
				if e != api.ErrSize {
					t.Errorf("%s(%.10q, %d bytes): error %d", name, other, len(tooLong), e)
				}
			}
		}
	}
	for name, e := range refusals(t, strings.Repeat("é", api.MaxLong/2), "1") {
		if e != api.ErrForm {
			t.Errorf("%s: error %d", name, e)
		}
	}
}

// P1.2: what is no number in form goes ahead of a nought.
func TestFormAheadOfZero(t *testing.T) {
	for _, bad := range []string{"x", "2/4", "", "-0"} {
		if s, e := exact.Div(bad, "0"); s != "" || e != api.ErrForm {
			t.Errorf("Div(%q, 0): %q, %d", bad, s, e)
		}
	}
	if s, e := exact.Div("1", "0/1"); s != "" || e != api.ErrForm {
		t.Error(s, e)
	}
}
