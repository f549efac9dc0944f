package meter

import "gridworks/api"

func mayBe(b api.Band) bool {
	return within(b.Tenths, 0, api.MaxTenths) && within(b.To, 1, api.MaxValue)
}

// below: does one band end ahead of the other?
func below(a, b api.Band) bool { return a.To < b.To }

// tenths of cents that a use costs, by bands that rise.
func tenths(use int, l []api.Band) int {
	cost, from := 0, 0
	for i, b := range l {
		to := min(use, b.To)
		if i == len(l)-1 { // what is above it costs as much
			to = use
		}
		cost += (to - from) * b.Tenths
		from = to
	}
	return cost
}

// cents of tenths that are not below 0, rounded up.
func cents(cost int) int { return (cost + 9) / 10 }
