package flow

import (
	"math/big"

	"gridworks/api"
	"gridworks/exact"
)

// numbers: so many, in form. All sizes are looked at first, since any ErrSize goes ahead of any ErrForm.
func numbers(count int, l []string) ([]*big.Rat, api.Errno) {
	if len(l) != count {
		return nil, api.ErrSize
	}
	for _, s := range l {
		if len(s) > api.MaxDigits {
			return nil, api.ErrSize
		}
	}
	read := make([]*big.Rat, count)
	for i, s := range l {
		if form, e := exact.Read(s); e != api.OK || form != s {
			return nil, api.ErrForm
		}
		read[i], _ = new(big.Rat).SetString(s) // SetString takes more than numbers in form, but all of these
	}
	return read, api.OK
}

func texts(l []*big.Rat) []string {
	told := make([]string, len(l))
	for i, x := range l {
		told[i] = x.RatString()
	}
	return told
}

// together: so many sums, each of the numbers that belong to it; those that belong to none are left out.
func together(count int, to []int, l []*big.Rat) []*big.Rat {
	sums := make([]*big.Rat, count)
	for i := range sums {
		sums[i] = new(big.Rat)
	}
	for i, x := range l {
		if to[i] != none {
			sums[to[i]].Add(sums[to[i]], x)
		}
	}
	return sums
}

// whole: all of a list times one number that makes them whole; and that number.
func whole(l []*big.Rat) ([]*big.Int, *big.Int) {
	unit := big.NewInt(1)
	for _, x := range l {
		shared := new(big.Int).GCD(nil, nil, unit, x.Denom())
		unit.Mul(unit, shared.Quo(x.Denom(), shared))
	}
	parts := make([]*big.Int, len(l))
	for i, x := range l {
		parts[i] = new(big.Int).Quo(unit, x.Denom())
		parts[i].Mul(parts[i], x.Num())
	}
	return parts, unit
}
