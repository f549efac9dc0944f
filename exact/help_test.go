package exact_test

import (
	"math/big"
	"regexp"
	"strconv"
	"testing"

	"gridworks/api"
	"gridworks/exact"
)

// binary: a function of the face that makes a number of two.
type binary struct {
	name string
	call func(a, b string) (string, api.Errno)
	want func(z, x, y *big.Rat) *big.Rat
}

func binaries() []binary {
	return []binary{
		{"Add", exact.Add, (*big.Rat).Add},
		{"Sub", exact.Sub, (*big.Rat).Sub},
		{"Mul", exact.Mul, (*big.Rat).Mul},
		{"Div", exact.Div, (*big.Rat).Quo},
	}
}

// refusals: what each function of two numbers answers, and whether it answers nothing else with an error.
func refusals(t *testing.T, a, b string) map[string]api.Errno {
	t.Helper()
	m := map[string]api.Errno{}
	for _, f := range binaries() {
		s, e := f.call(a, b)
		if e != api.OK && s != "" {
			t.Errorf("%s(%.20q, %.20q): %q beside error %d", f.name, a, b, s, e)
		}
		m[f.name] = e
	}
	c, e := exact.Cmp(a, b)
	if e != api.OK && c != 0 {
		t.Errorf("Cmp(%.20q, %.20q): %d beside error %d", a, b, c, e)
	}
	m["Cmp"] = e
	return m
}

// allTexts calls f with each text of at most so many letters of an alphabet.
func allTexts(alphabet string, most int, f func(string)) {
	var grow func(s string)
	grow = func(s string) {
		f(s)
		if len(s) == most {
			return
		}
		for i := range len(alphabet) {
			grow(s + alphabet[i:i+1])
		}
	}
	grow("")
}

// form of over / under, by whole numbers of 64 bits alone.
func form(over, under int) string {
	if under < 0 {
		over, under = -over, -under
	}
	x, y := max(over, -over), under
	for y != 0 {
		x, y = y, x%y
	}
	if under == x {
		return strconv.Itoa(over / x)
	}
	return strconv.Itoa(over/x) + "/" + strconv.Itoa(under/x)
}

// told: what P1.1 asks of a short text, worked out in another way than the program's.
func told(s string) (string, api.Errno) {
	m := shape.FindStringSubmatch(s)
	if m == nil {
		return "", api.ErrForm
	}
	over, _ := strconv.Atoi(m[2] + m[3])
	under := 1
	for range m[3] {
		under *= 10
	}
	if m[4] != "" {
		under, _ = strconv.Atoi(m[4])
	}
	if under == 0 {
		return "", api.ErrZero
	}
	if m[1] == "-" {
		over = -over
	}
	return form(over, under), api.OK
}

// shape: a sign, digits, digits behind a point, digits behind a stroke.
var shape = regexp.MustCompile(`\A(-?)([0-9]+)(?:\.([0-9]+)|/([0-9]+))?\z`)

// rat of a number in form.
func rat(t *testing.T, s string) *big.Rat {
	t.Helper()
	x, ok := new(big.Rat).SetString(s)
	if !ok {
		t.Fatalf("%q is no number", s)
	}
	return x
}

// draw: numbers that look drawn, the same each time.
type draw uint64

func (d *draw) below(most int) int {
	*d = *d*6364136223846793005 + 1442695040888963407
	return int(uint64(*d>>33) % uint64(most))
}

// digits: so many, the first of them no nought.
func (d *draw) digits(n int) string {
	b := make([]byte, n)
	for i := range b {
		b[i] = byte('0' + d.below(10))
	}
	b[0] = byte('1' + d.below(9))
	return string(b)
}

// number in form, of at most 2n+2 bytes.
func (d *draw) number(n int) string {
	x, _ := new(big.Rat).SetString(d.digits(1+d.below(n)) + "/" + d.digits(1+d.below(n)))
	switch d.below(5) {
	case 0:
		x.SetInt(x.Num())
	case 1, 2:
		x.Neg(x)
	}
	if d.below(20) == 0 {
		x.SetInt64(0)
	}
	return x.RatString()
}
