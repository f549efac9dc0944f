package shift

import (
	"math/big"

	"gridworks/api"
	"gridworks/grid"
)

// numbers: so many, in form. All sizes are looked at first, since any ErrSize goes ahead of any ErrForm. (Layer 1's own sums won't do for these: what is moved onto the longest flow may be longer than it takes.)
func numbers(count int, l []string) ([]*big.Rat, api.Errno) {
	if len(l) != count {
		return nil, api.ErrSize
	}
	for _, s := range l {
		if len(s) > api.MaxLong {
			return nil, api.ErrSize
		}
	}
	read := make([]*big.Rat, count)
	for i, s := range l {
		x, e := grid.Long(s)
		if e != api.OK {
			return nil, e
		}
		read[i] = x
	}
	return read, api.OK
}

// number of a text that is known to be in form.
func number(s string) *big.Rat {
	x, _ := new(big.Rat).SetString(s) // it takes more than numbers in form, but all of these
	return x
}
