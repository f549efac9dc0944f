package protect

import (
	"math"

	"gridworks/api"
)

// areWhole: are all parts whole numbers, at most so great in size?
func areWhole(most float64, l ...complex128) bool {
	for _, c := range l {
		if !isWhole(most, real(c)) || !isWhole(most, imag(c)) {
			return false
		}
	}
	return true
}

// isWhole: what is no number equals nothing, and what is infinite is above most.
func isWhole(most, part float64) bool {
	return math.Trunc(part) == part && math.Abs(part) <= most
}

// isRising: do zones reach further and further?
func isRising(reach []int) bool {
	for k, r := range reach {
		if !isUpTo(api.MaxReach, r) || k > 0 && r <= reach[k-1] {
			return false
		}
	}
	return true
}

// square of the size. Sizes are compared by their squares: these are whole and, within the limits, below 2^53, whatever they are multiplied by here; so nothing is rounded, as a root would be.
func square(c complex128) float64 {
	return real(c)*real(c) + imag(c)*imag(c)
}

func conjugate(c complex128) complex128 {
	return complex(real(c), -imag(c))
}

func differs(l []complex128, slack, percent float64) bool {
	var all complex128
	greatest := 0.0
	for _, c := range l {
		all += c
		greatest = max(greatest, square(c))
	}
	size := square(all)
	return size > slack*slack && 100*100*size > percent*percent*greatest
}

func zone(v, i, dir complex128, reach []int) int {
	// Without a current, too, nothing lies ahead: the product is 0.
	if ahead := real(v * conjugate(i) * conjugate(dir)); ahead <= 0 {
		return -1
	}
	for k, r := range reach {
		if square(v) <= float64(r*r)*square(i) {
			return k
		}
	}
	return -1
}
