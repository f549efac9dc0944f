package grid

import (
	"math/big"

	"gridworks/api"
	"gridworks/exact"
)

// Number of a text that is in form. ErrSize: it has more than MaxDigits bytes; ErrForm: it is no number in form.
func Number(s string) (*big.Rat, api.Errno) {
	form, e := exact.Read(s)
	switch {
	case e == api.ErrSize:
		return nil, e
	case e != api.OK || form != s:
		return nil, api.ErrForm
	}
	x, _ := new(big.Rat).SetString(s) // it takes more than numbers in form, but all of these
	return x, api.OK
}

// Long: the number of a text that is in form, and may be as long as a number on the way. ErrSize: it has more than MaxLong bytes; ErrForm: it is no number in form.
func Long(s string) (*big.Rat, api.Errno) {
	if _, e := exact.Cmp(s, s); e != api.OK { // it takes numbers in form alone
		return nil, e
	}
	x, _ := new(big.Rat).SetString(s)
	return x, api.OK
}

// Texts: numbers in form.
func Texts(l []*big.Rat) []string {
	told := make([]string, len(l))
	for i, x := range l {
		told[i] = x.RatString()
	}
	return told
}

// Whole: all of a list times one number that makes them whole; and that number.
func Whole(l []*big.Rat) ([]*big.Int, *big.Int) {
	unit := big.NewInt(1)
	for _, x := range l {
		shared := new(big.Int).GCD(nil, nil, unit, x.Denom())
		unit.Mul(unit, shared.Quo(x.Denom(), shared))
	}
	parts := make([]*big.Int, len(l))
	for i, x := range l {
		parts[i] = new(big.Int).Quo(unit, x.Denom())
		parts[i].Mul(parts[i], x.Num())
	}
	return parts, unit
}
