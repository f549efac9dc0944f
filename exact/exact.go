// Package exact: numbers that are never rounded, and cents that add up.
package exact

import (
	"math/big"

	"gridworks/api"
)

// Read: the form of a number's text.
func Read(s string) (string, api.Errno) {
	if len(s) > api.MaxDigits {
		return "", api.ErrSize
	}
	x, e := parse(s)
	if e != api.OK {
		return "", e
	}
	return x.RatString(), api.OK
}

// Add both.
func Add(a, b string) (string, api.Errno) { return combine((*big.Rat).Add, a, b) }

// Sub: a less b.
func Sub(a, b string) (string, api.Errno) { return combine((*big.Rat).Sub, a, b) }

// Mul: a times b.
func Mul(a, b string) (string, api.Errno) { return combine((*big.Rat).Mul, a, b) }

// Div: a over b.
func Div(a, b string) (string, api.Errno) {
	if _, y, e := operands(a, b); e == api.OK && y.Sign() == 0 { // Quo would panic
		return "", api.ErrZero
	}
	return combine((*big.Rat).Quo, a, b)
}

// Cmp: -1, 0, 1.
func Cmp(a, b string) (int, api.Errno) {
	x, y, e := operands(a, b)
	if e != api.OK {
		return 0, e
	}
	return x.Cmp(y), api.OK
}

// Share a whole number by weights.
func Share(total int, weights []string) ([]int, api.Errno) {
	if len(weights) > api.MaxParts {
		return nil, api.ErrSize
	}
	l, e := readAll(api.MaxDigits, weights)
	if e != api.OK {
		return nil, e
	}
	if total > api.MaxTotal || total < -api.MaxTotal || anyBelowZero(l) {
		return nil, api.ErrRange
	}
	parts := wholeParts(l)
	all := gather((*big.Int).Add, 0, parts)
	if all.Sign() == 0 {
		return nil, api.ErrZero
	}
	return deal(total, parts, all), api.OK
}
