package dispatch

import (
	"math/big"

	"gridworks/api"
	"gridworks/grid"
)

// numbers of texts: whether these are so many, and all in form.
func numbers(count int, l []string) ([]*big.Rat, bool) {
	if len(l) != count {
		return nil, false
	}
	read := make([]*big.Rat, count)
	for i, s := range l {
		x, e := grid.Long(s)
		if e != api.OK {
			return nil, false
		}
		read[i] = x
	}
	return read, true
}

func noughts(l []*big.Rat) bool {
	for _, x := range l {
		if x.Sign() != 0 {
			return false
		}
	}
	return true
}

func whole(k int) *big.Rat { return new(big.Rat).SetInt64(int64(k)) }

func times(k int, x *big.Rat) *big.Rat { return new(big.Rat).Mul(whole(k), x) }

func size(x *big.Rat) *big.Rat { return new(big.Rat).Abs(x) }
