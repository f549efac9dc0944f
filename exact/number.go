package exact

import (
	"math/big"
	"strings"

	"gridworks/api"
)

// operation: what is made of two numbers; a method of *big.Rat, taken as an expression.
type operation func(z, x, y *big.Rat) *big.Rat

// combine hands two numbers in form to an operation that is fit for them.
func combine(op operation, a, b string) (string, api.Errno) {
	x, y, e := operands(a, b)
	if e != api.OK {
		return "", e
	}
	return op(new(big.Rat), x, y).RatString(), api.OK
}

func operands(a, b string) (x, y *big.Rat, e api.Errno) {
	l, e := readAll(api.MaxLong, []string{a, b})
	if e != api.OK {
		return nil, nil, e
	}
	return l[0], l[1], api.OK
}

// readAll: numbers in form. All sizes are looked at first, since any ErrSize goes ahead of any ErrForm.
func readAll(most int, texts []string) ([]*big.Rat, api.Errno) {
	for _, s := range texts {
		if len(s) > most {
			return nil, api.ErrSize
		}
	}
	l := make([]*big.Rat, len(texts))
	for i, s := range texts {
		x, e := parse(s)
		if e != api.OK || x.RatString() != s { // a number is in form just if it is told as it was
			return nil, api.ErrForm
		}
		l[i] = x
	}
	return l, api.OK
}

// parse: what a text tells, be it in form or not: ErrForm or ErrZero, if it tells no number.
func parse(s string) (*big.Rat, api.Errno) {
	first, mark := 0, len(s) // where digits begin, and where the point or stroke is
	for i, r := range s {
		switch {
		case r == '-' && i == 0:
			first = 1
		case (r == '.' || r == '/') && mark == len(s):
			mark = i
		case r < '0' || r > '9':
			return nil, api.ErrForm
		}
	}
	ahead, behind := s[first:mark], "1"
	if mark < len(s) {
		behind = s[mark+1:]
	}
	if ahead == "" || behind == "" {
		return nil, api.ErrForm
	}
	if mark < len(s) && s[mark] == '.' {
		ahead, behind = ahead+behind, "1"+strings.Repeat("0", len(behind))
	}
	return fraction(first == 1, ahead, behind)
}

// fraction of digits over digits, in lowest terms.
func fraction(below bool, over, under string) (*big.Rat, api.Errno) {
	a, okA := new(big.Int).SetString(over, 10)
	b, okB := new(big.Int).SetString(under, 10)
	if !okA || !okB {
		return nil, api.ErrForm
	}
	if b.Sign() == 0 { // SetFrac would panic
		return nil, api.ErrZero
	}
	if below {
		a.Neg(a)
	}
	return new(big.Rat).SetFrac(a, b), api.OK
}
