package exact

import (
	"math/big"
	"slices"
)

func anyBelowZero(l []*big.Rat) bool {
	return slices.ContainsFunc(l, func(x *big.Rat) bool { return x.Sign() < 0 })
}

// gather all of a list by sums or by products: a method of *big.Int, taken as an expression.
func gather(op func(z, x, y *big.Int) *big.Int, start int64, l []*big.Int) *big.Int {
	all := big.NewInt(start)
	for _, x := range l {
		op(all, all, x)
	}
	return all
}

// wholeParts: all weights times one number that makes them whole. That changes no share, and all that is rounded away is then told in the same unit.
func wholeParts(l []*big.Rat) []*big.Int {
	unders := make([]*big.Int, len(l))
	for i, x := range l {
		unders[i] = x.Denom()
	}
	common := gather((*big.Int).Mul, 1, unders)
	parts := make([]*big.Int, len(l))
	for i, x := range l {
		parts[i] = new(big.Int).Quo(common, unders[i])
		parts[i].Mul(parts[i], x.Num())
	}
	return parts
}

// deal total out by parts, of which all are the sum, above 0.
func deal(total int, parts []*big.Int, all *big.Int) []int {
	shares := make([]int, len(parts))
	lost := make([]*big.Int, len(parts))
	places := make([]int, len(parts))
	left := total
	for i, p := range parts {
		just := new(big.Int).Mul(big.NewInt(int64(total)), p)
		down, rest := new(big.Int).DivMod(just, all, new(big.Int)) // DivMod rounds down, below 0 too
		shares[i], lost[i], places[i] = int(down.Int64()), rest, i
		left -= shares[i]
	}
	slices.SortStableFunc(places, func(i, j int) int { return lost[j].Cmp(lost[i]) })
	for _, i := range places[:left] { // each lost less than one: less are left than there are parts
		shares[i]++
	}
	return shares
}
