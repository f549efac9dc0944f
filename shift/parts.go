package shift

import (
	"slices"

	"gridworks/api"
	"gridworks/flow"
)

// parts tells how a unit is parted among the lines that goes from one bus to another one of its island. The network must be one that flow takes.
func parts(n api.Net, out []bool) func(from, to int) []string {
	return func(from, to int) []string {
		feed := slices.Repeat([]string{"0"}, len(n.Buses))
		if from != to {
			feed[from], feed[to] = "1", "-1"
		}
		s, _ := flow.Solve(n, out, feed) // nothing is left to be refused: within one island such feeds are 0 together
		return s.Flows
	}
}

// without: which lines are out if k is, too; the list that was handed in stays as it is.
func without(out []bool, k int) []bool {
	l := slices.Clone(out)
	l[k] = true
	return l
}
