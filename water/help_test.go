package water_test

import (
	"math/rand/v2"
	"slices"
	"testing"

	"gridworks/api"
	"gridworks/water"
)

// example: the chapter's lake.
func example() api.Lake { return api.Lake{Most: 5, Start: 3, Turbine: 2, Worth: 1} }

// pair: two lakes from 0 to 9, the lower one worth three times as much.
func pair() []api.Lake {
	return []api.Lake{{Most: 9, Start: 4, Turbine: 3, Worth: 1}, {Most: 9, Start: 2, Turbine: 4, Worth: 3}}
}

// greatest: as many lakes as may be, with all that may be.
func greatest() []api.Lake {
	k := api.Lake{Most: api.MaxWater, Start: api.MaxWater, Turbine: api.MaxRelease, Worth: api.MaxWorths}
	return slices.Repeat([]api.Lake{k}, api.MaxLakes)
}

// rows: of each hour a list of what is told of lakes.
func rows(l ...[]int) [][]int { return l }

// each hour tells this of one lake.
func each(l ...int) [][]int {
	r := make([][]int, len(l))
	for h, x := range l {
		r[h] = []int{x}
	}
	return r
}

// still: for so many hours, of so many lakes, nothing.
func still(hours, lakes int) [][]int { return always(hours, make([]int, lakes)...) }

// always: for so many hours the same.
func always(hours int, l ...int) [][]int {
	r := make([][]int, hours)
	for h := range r {
		r[h] = slices.Clone(l)
	}
	return r
}

func same(a, b [][]int) bool { return slices.EqualFunc(a, b, slices.Equal) }

func wantRun(t *testing.T, l []api.Lake, inflow, release, levels, spilled [][]int) {
	t.Helper()
	if a, b, e := water.Run(l, inflow, release); !same(a, levels) || !same(b, spilled) || e != api.OK {
		t.Errorf("Run(%+v, %v, %v): %v, %v, %d; %v, %v is wanted", l, inflow, release, a, b, e, levels, spilled)
	}
}

// noRun: whether Run refuses like this, with nothing beside it.
func noRun(t *testing.T, l []api.Lake, inflow, release [][]int, want api.Errno) {
	t.Helper()
	if a, b, e := water.Run(l, inflow, release); len(a) > 0 || len(b) > 0 || e != want {
		t.Errorf("Run(%+v, %v, %v): %v, %v, %d; %d is wanted", l, inflow, release, a, b, e, want)
	}
}

// wantBest: whether Best tells these releases, which Run takes, and what they are worth.
func wantBest(t *testing.T, l []api.Lake, inflow [][]int, price, end []int, want [][]int, worth int) {
	t.Helper()
	r, w, e := water.Best(l, inflow, price, end)
	if !same(r, want) || w != worth || e != api.OK {
		t.Errorf("Best(%+v, %v, %v, %v): %v, %d, %d; %v, %d is wanted", l, inflow, price, end, r, w, e, want, worth)
	}
	if w, e := value(l, inflow, price, end, want); w != worth || e != api.OK {
		t.Errorf("%+v, %v, %v, %v: %v is worth %d, %d; %d is wanted", l, inflow, price, end, want, w, e, worth)
	}
}

func noBest(t *testing.T, l []api.Lake, inflow [][]int, price, end []int, want api.Errno) {
	t.Helper()
	if r, w, e := water.Best(l, inflow, price, end); len(r) > 0 || w != 0 || e != want {
		t.Errorf("Best(%+v, %v, %v, %v): %v, %d, %d; %d is wanted", l, inflow, price, end, r, w, e, want)
	}
}

// value of releases, by what Run tells of them.
func value(l []api.Lake, inflow [][]int, price, end []int, release [][]int) (int, api.Errno) {
	levels, _, e := water.Run(l, inflow, release)
	worth := 0
	for i, k := range l {
		last := k.Start
		if len(levels) > 0 {
			last = levels[len(levels)-1][i]
		}
		worth += last * end[i]
		for h := range levels {
			worth += release[h][i] * k.Worth * price[h]
		}
	}
	return worth, e
}

// places of drops: how many are in lake 0, on the way to lake 1, in lake 1, .., gone.
type places []int

func (p places) lake(i int) int { return p[2*i] }

// hour: drop by drop, the tests' own way; not ok: a release can't be.
func (p places) hour(l []api.Lake, inflow, release []int) (spilled []int, ok bool) {
	for i := range l {
		p[2*i] += inflow[i]
		if i > 0 {
			p[2*i] += p[2*i-1]
			p[2*i-1] = 0
		}
	}
	spilled = make([]int, len(l))
	for i, k := range l {
		if release[i] < 0 || release[i] > k.Turbine {
			return nil, false
		}
		for range release[i] {
			p[2*i]--
			p[2*i+1]++
		}
		if p[2*i] < k.Least {
			return nil, false
		}
		for p[2*i] > k.Most {
			p[2*i]--
			p[2*i+1]++
			spilled[i]++
		}
	}
	return spilled, true
}

func settled(l []api.Lake) places {
	p := make(places, 2*len(l))
	for i, k := range l {
		p[2*i] = k.Start
	}
	return p
}

// poured: the tests' own Run.
func poured(l []api.Lake, inflow, release [][]int) (levels, spilled [][]int, e api.Errno) {
	p := settled(l)
	for h := range inflow {
		s, ok := p.hour(l, inflow[h], release[h])
		if !ok {
			return nil, nil, api.ErrShut
		}
		now := make([]int, len(l))
		for i := range l {
			now[i] = p.lake(i)
		}
		levels, spilled = append(levels, now), append(spilled, s)
	}
	return levels, spilled, api.OK
}

// unfold: releases that are told by a number: its digits are hours and within them lakes, the first one is the highest.
func unfold(number, base, lakes, hours int) [][]int {
	r := still(hours, lakes)
	for h := hours - 1; h >= 0; h-- {
		for i := lakes - 1; i >= 0; i-- {
			r[h][i] = number % base
			number /= base
		}
	}
	return r
}

// foremost: the first of all releases that are worth most, all of them being looked at.
func foremost(l []api.Lake, inflow [][]int, price, end []int) (best [][]int, most int) {
	base, count, most := 1, 1, -1
	for _, k := range l {
		base = max(base, k.Turbine+1)
	}
	for range len(l) * len(inflow) {
		count *= base
	}
	for number := range count {
		r := unfold(number, base, len(l), len(inflow))
		if w, ok := paid(l, inflow, price, end, r); ok && w > most {
			best, most = r, w
		}
	}
	return best, most
}

// paid: what releases are worth, in the tests' own way; not ok: they can't be.
func paid(l []api.Lake, inflow [][]int, price, end []int, release [][]int) (int, bool) {
	p, worth := settled(l), 0
	for h := range inflow {
		if _, ok := p.hour(l, inflow[h], release[h]); !ok {
			return 0, false
		}
		for i, k := range l {
			worth += k.Worth * price[h] * release[h][i]
		}
	}
	for i := range l {
		worth += p.lake(i) * end[i]
	}
	return worth, true
}

// kept: a way up to an hour: what it is worth, and its number, as unfold takes it to the base MaxRelease + 1.
type kept struct{ worth, number int }

func (k kept) beats(o kept) bool {
	return k.worth > o.worth || k.worth == o.worth && k.number < o.number
}

// forward: as foremost, but hour by hour: of all that led to the same places the best one is kept.
func forward(l []api.Lake, inflow [][]int, price, end []int) ([][]int, int) {
	const base = api.MaxRelease + 1
	type key [2 * api.MaxLakes]int
	first := key{}
	copy(first[:], settled(l))
	ways := map[key]kept{first: {}}
	for h := range inflow {
		next := map[key]kept{}
		for at, way := range ways {
			for choice := range base * base {
				r := unfold(choice, base, api.MaxLakes, 1)[0]
				now := at
				if _, ok := places(now[:]).hour(l, inflow[h], r); !ok {
					continue
				}
				now[2*api.MaxLakes-1] = 0 // what is gone tells nothing
				k := kept{way.worth, way.number*base*base + choice}
				for i := range l {
					k.worth += r[i] * l[i].Worth * price[h]
				}
				if old, ok := next[now]; !ok || k.beats(old) {
					next[now] = k
				}
			}
		}
		ways = next
	}
	best := kept{worth: -1}
	for at, k := range ways {
		for i := range end {
			k.worth += places(at[:]).lake(i) * end[i]
		}
		if k.beats(best) {
			best = k
		}
	}
	return unfold(best.number, base, api.MaxLakes, len(inflow)), best.worth
}

// drawnLakes: so many, of water up to about most, of small worths, so that several releases are often worth the same.
func drawnLakes(d *rand.Rand, count, most int) []api.Lake {
	l := make([]api.Lake, count)
	for i := range l {
		k := api.Lake{Least: d.IntN(3), Turbine: d.IntN(api.MaxRelease + 1), Worth: d.IntN(4)}
		k.Start = k.Least + d.IntN(most-1)
		k.Most = k.Start + d.IntN(most-k.Start+1)
		l[i] = k
	}
	return l
}

// drawnNumbers: so many, each from 0 to most.
func drawnNumbers(d *rand.Rand, count, most int) []int {
	l := make([]int, count)
	for i := range l {
		l[i] = d.IntN(most + 1)
	}
	return l
}

// drawnRows: of so many hours and lakes.
func drawnRows(d *rand.Rand, hours, lakes, most int) [][]int {
	r := make([][]int, hours)
	for h := range r {
		r[h] = drawnNumbers(d, lakes, most)
	}
	return r
}

// roomy: a list with spare room, and a copy of it with that.
func roomy[T any](spare T, l ...T) (list, kept []T) {
	list = append(append(make([]T, 0, len(l)+5), l...), spare, spare)[:len(l)]
	return list, slices.Clone(list[:cap(list)])
}

// roomyRows: hours with spare room, each of them too, and copies of what is in them with that.
func roomyRows(l ...[]int) (list, kept [][]int) {
	for _, r := range l {
		a, b := roomy(-7, r...)
		list, kept = append(list, a), append(kept, b)
	}
	list, _ = roomy([]int{-7}, list...)
	return list, append(kept, []int{-7}, []int{-7}, nil, nil, nil)
}

func wantKept[T comparable](t *testing.T, l, kept []T) {
	t.Helper()
	if !slices.Equal(l[:cap(l)], kept) {
		t.Errorf("changed: %v; %v is wanted", l[:cap(l)], kept)
	}
}

func wantRowsKept(t *testing.T, l, kept [][]int) {
	t.Helper()
	l = l[:cap(l)]
	for h := range l {
		if !slices.Equal(l[h][:cap(l[h])], kept[h]) {
			t.Errorf("changed: hour %d: %v; %v is wanted", h, l[h][:cap(l[h])], kept[h])
		}
	}
}

// fill a list with what it hasn't, its spare room too.
func fill[T any](l []T, x T) {
	l = l[:cap(l)]
	for i := range l {
		l[i] = x
	}
}

// wantApart: whether lists share no memory: what is written into one, its spare room too, is in no other.
func wantApart(t *testing.T, l [][]int) {
	t.Helper()
	for k := range l {
		fill(l[k], -100-k)
	}
	for k := range l {
		for _, x := range l[k][:cap(l[k])] {
			if x != -100-k {
				t.Error("lists share memory:", k, -100-x)
			}
		}
	}
}
