package meter

import "strconv"

// all: does this hold for each of a list?
func all[T any](l []T, holds func(T) bool) bool {
	for _, x := range l {
		if !holds(x) {
			return false
		}
	}
	return true
}

// eachTwo: does this hold for each two of a list that stand side by side?
func eachTwo[T any](l []T, holds func(a, b T) bool) bool {
	for i := 1; i < len(l); i++ {
		if !holds(l[i-1], l[i]) {
			return false
		}
	}
	return true
}

// within: is it from least to most?
func within(x, least, most int) bool { return least <= x && x <= most }

// allTo: is each of a list from 0 to most?
func allTo(most int, l []int) bool {
	return all(l, func(x int) bool { return within(x, 0, most) })
}

// weights: uses as numbers in form.
func weights(uses []int) []string {
	l := make([]string, len(uses))
	for i, x := range uses {
		l[i] = strconv.Itoa(x)
	}
	return l
}
