package secure

import (
	"sync"
	"sync/atomic"

	"gridworks/api"
)

// failure tells what goes wrong when it happens.
type failure func() []api.Breach

// failures: all that are looked at, in the order in which they are told; the first one is that nothing fails.
func (g *grid) failures() []failure {
	l := []failure{g.whole}
	for k, out := range g.out {
		if !out {
			l = append(l, func() []api.Breach { return g.noLine(k) })
		}
	}
	for k, power := range g.plan {
		if power > 0 {
			l = append(l, func() []api.Breach { return g.noGen(k) })
		}
	}
	return l
}

// lookAt all failures at once. Each has a place of its own for what it finds: so the answer's order is theirs, however they run.
func lookAt(failures []failure) []api.Breach {
	found := make([][]api.Breach, len(failures))
	var count atomic.Int64
	var all sync.WaitGroup
	all.Add(len(failures))
	for i, look := range failures {
		go func() {
			defer all.Done()
			found[i] = look()
			count.Add(int64(len(found[i])))
		}()
	}
	all.Wait()
	breaches := make([]api.Breach, 0, count.Load())
	for _, l := range found {
		breaches = append(breaches, l...)
	}
	return breaches
}
