package secure

import (
	"math/big"
	"strconv"
	"strings"
	"sync"

	"gridworks/api"
	"gridworks/exact"
	"gridworks/flow"
	"gridworks/shift"
)

// nowhere: what goes wrong is on no line.
const nowhere = -1

// grid: a network at work by a plan. It is what all failures share: they read it at the same time, and change nothing.
type grid struct {
	net     api.Net
	out     []bool
	plan    []int
	islands []int // of each bus
	feeds   []int // of each bus
	once    sync.Once
	flows   []string // of each line; asked for by flowing alone
}

// flowing: what flows over each line while nothing fails. It is worked out for whoever asks first.
func (g *grid) flowing() []string {
	g.once.Do(func() { g.flows = g.solve(g.feeds, 1) })
	return g.flows
}

// solve: what flows of feeds that are told as so many parts of one each. They must be 0 together in each island; so nothing is left to be refused.
func (g *grid) solve(feeds []int, parts int) []string {
	told := make([]string, len(feeds))
	for bus, f := range feeds {
		told[bus] = big.NewRat(int64(f), int64(parts)).RatString()
	}
	s, _ := flow.Solve(g.net, g.out, told)
	return s.Flows
}

func (g *grid) whole() []api.Breach {
	return g.tooMuch(api.Whole, -1, g.flowing())
}

func (g *grid) noLine(k int) []api.Breach {
	flows, e := shift.After(g.net, g.out, g.flowing(), k)
	if e == api.ErrSplit {
		return []api.Breach{{Kind: api.NoLine, Of: k, On: nowhere, By: "0"}}
	}
	return g.tooMuch(api.NoLine, k, flows)
}

func (g *grid) noGen(k int) []api.Breach {
	rooms := 0
	for i := range g.net.Gens {
		rooms += g.room(i, k)
	}
	if lacks := g.plan[k] - rooms; lacks > 0 {
		return []api.Breach{{Kind: api.NoGen, Of: k, On: nowhere, By: strconv.Itoa(lacks)}}
	}
	return g.tooMuch(api.NoGen, k, g.solve(g.takenOver(k, rooms), rooms))
}

// room: how much more a generator can generate if k goes out: nothing, if it does not help.
func (g *grid) room(i, k int) int {
	gens := g.net.Gens
	if i == k || g.plan[i] == 0 || g.islands[gens[i].Bus] != g.islands[gens[k].Bus] {
		return 0
	}
	return gens[i].Most - g.plan[i]
}

// takenOver: of each bus what it feeds in without the generator k, times all rooms: so all parts are whole.
func (g *grid) takenOver(k, rooms int) []int {
	feeds := make([]int, len(g.feeds))
	for bus, f := range g.feeds {
		feeds[bus] = f * rooms
	}
	for i, gen := range g.net.Gens {
		feeds[gen.Bus] += g.plan[k] * g.room(i, k)
	}
	feeds[g.net.Gens[k].Bus] -= g.plan[k] * rooms
	return feeds
}

// tooMuch: which lines carry more than they can, either way, when something fails. (Even the greatest network's flows have less than 200 bytes: exact takes them all.)
func (g *grid) tooMuch(kind, of int, flows []string) []api.Breach {
	var l []api.Breach
	for i, line := range g.net.Lines {
		by, _ := exact.Sub(strings.TrimPrefix(flows[i], "-"), strconv.Itoa(line.Limit))
		if by != "0" && !strings.HasPrefix(by, "-") {
			l = append(l, api.Breach{Kind: kind, Of: of, On: i, By: by})
		}
	}
	return l
}
