package meter

import (
	"slices"

	"gridworks/api"
)

// known: times, and what a meter showed then.
type known struct{ times, values []int }

func (k known) sized() bool {
	return within(len(k.times), 1, api.MaxKnown) && len(k.values) == len(k.times)
}

// inOrder: whether times rise, and values do not fall.
func (k known) inOrder() bool {
	return eachTwo(k.times, func(a, b int) bool { return a < b }) && eachTwo(k.values, func(a, b int) bool { return a <= b })
}

// at: what the meter showed at a time, by what is known, which is sized and in order.
func (k known) at(time int) int {
	next, _ := slices.BinarySearch(k.times, time) // the first one that is not ahead of this time
	if next == 0 || len(k.times) == 1 {
		return k.values[0]
	}
	next = min(next, len(k.times)-1) // behind the last one the line of the last two goes on
	last := next - 1
	rise, way := k.values[next]-k.values[last], k.times[next]-k.times[last]
	return min(k.values[last]+rise*(time-k.times[last])/way, api.MaxValue) // what is divided is never below 0, so that it is rounded down
}
