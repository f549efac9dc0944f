package protect_test

import (
	"math"
	"math/rand/v2"
	"slices"
	"sync"
	"testing"

	"gridworks/api"
	"gridworks/protect"
)

// P11.4: the chapter's example, and others in a row.
func TestClear(t *testing.T) {
	wantClear(t, laid(3, "ab!", "bc"), 0, "110", nil, []int{1})
	wantClear(t, laid(3, "ab", "bc"), 0, "100", []int{0})
	wantClear(t, laid(3, "ab", "bc"), 1, "010", []int{0, 1})
	wantClear(t, laid(3, "ab!", "bc"), 1, "110", []int{1}, nil)
	wantClear(t, laid(3, "ab!", "bc"), 2, "001", []int{1})
	wantClear(t, laid(3, "ab!", "bc!"), 0, "111", nil, nil, nil)
	wantClear(t, laid(3, "ab!", "bc!"), 1, "111", nil, nil)
	wantClear(t, laid(3, "ba!", "cb"), 0, "110", nil, []int{1}) // whichever side is told first
}

// P11.4: a part without breakers gets dark in a step in which none opens.
func TestClearAlone(t *testing.T) {
	wantClear(t, laid(1), 0, "1", nil)
	wantClear(t, laid(3), 1, "010", nil)
	wantClear(t, laid(3, "bc!"), 0, "100", nil)
	wantClear(t, plant{parts: 2, cuts: []api.Cut{}, stuck: []bool{}}, 1, "01", nil)
}

// P11.4: step by step: what got dark together is tripped together, each breaker once.
func TestClearSteps(t *testing.T) {
	wantClear(t, laid(6, "ef", "ab!", "de", "ac!", "bd", "ce!", "cd"), 0, "111010", nil, []int{4, 6}, []int{0, 2})
	// Breakers beside a stuck one, and between parts that got dark together, open as well.
	wantClear(t, laid(2, "ab", "ab!", "ba"), 0, "11", []int{0, 2}, nil)
	wantClear(t, laid(3, "bc", "ab!", "ac!"), 0, "111", nil, []int{0})
	wantClear(t, laid(3, "bc!", "ab!", "ac!"), 0, "111", nil, nil)
	wantClear(t, laid(3, "ab", "bc!", "ca!"), 0, "111", []int{0}, nil, nil)
	wantClear(t, laid(4, "ab!", "bc!", "cd!", "da!"), 0, "1111", nil, nil, nil)
	wantClear(t, laid(4, "cd", "bd", "ad", "ab!", "bc!"), 0, "1110", []int{2}, []int{1}, []int{0})
}

// P11.4: what opened or is dark elsewhere is not tripped.
func TestClearApart(t *testing.T) {
	wantClear(t, laid(5, "ab", "cd", "de!", "ce"), 0, "10000", []int{0})
	wantClear(t, laid(5, "ab", "cd", "de!", "ce"), 3, "00011", []int{1}, []int{3})
	wantClear(t, laid(5, "ab", "cd", "de!", "ce"), 4, "00011", []int{3}, []int{1})
}

// P11.4: as many parts and breakers as may be.
func TestClearGreatest(t *testing.T) {
	row := laid(12, "ab!", "bc!", "cd!", "de!", "ef!", "fg!", "gh!", "hi!", "ij!", "jk!", "kl!")
	wantClear(t, row, 0, "111111111111", make([][]int, 12)...)
	wantClear(t, row, 11, "111111111111", make([][]int, 12)...)
	wantClear(t, row, 5, "111111111111", make([][]int, 7)...)
	many := slices.Repeat([]string{"kl", "la"}, api.MaxCuts/2)
	wantClear(t, laid(12, many...), 11, "000000000001", []int{0, 1, 2, 3, 4, 5, 6, 7, 8, 9, 10, 11, 12, 13, 14, 15, 16, 17, 18, 19})
	wantClear(t, laid(12, many...), 0, "100000000000", []int{1, 3, 5, 7, 9, 11, 13, 15, 17, 19})
	many[19] = "la!"
	wantClear(t, laid(12, many...), 0, "100000000001", []int{1, 3, 5, 7, 9, 11, 13, 15, 17}, []int{0, 2, 4, 6, 8, 10, 12, 14, 16, 18})
}

// steps that a part is away from the fault over stuck breakers; -1: it stays as it is.
func (p plant) far(fault int) []int {
	away := slices.Repeat([]int{-1}, p.parts)
	away[fault] = 0
	for range p.parts {
		for k, c := range p.cuts {
			for _, h := range [][2]int{{c.A, c.B}, {c.B, c.A}} {
				if p.stuck[k] && away[h[0]] >= 0 && (away[h[1]] < 0 || away[h[1]] > away[h[0]]+1) {
					away[h[1]] = away[h[0]] + 1
				}
			}
		}
	}
	return away
}

// cleared: the tests' own way: a breaker opens when the nearer one of its parts gets dark.
func (p plant) cleared(fault int) ([][]int, string) {
	away := p.far(fault)
	steps, dark := make([][]int, slices.Max(away)+1), make([]bool, p.parts)
	for part, n := range away {
		dark[part] = n >= 0
	}
	for k, c := range p.cuts {
		a, b := away[c.A], away[c.B]
		if a < 0 || b >= 0 && b < a {
			a = b
		}
		if a >= 0 && !p.stuck[k] {
			steps[a] = append(steps[a], k)
		}
	}
	return steps, text(dark)
}

// P11.4: drawn plants; quick ones, and ones that take many steps.
func TestDrawnClears(t *testing.T) {
	d := rand.New(rand.NewPCG(11, 4))
	long := 0
	for range 6000 {
		p := drawnPlant(d, 2+d.IntN(api.MaxParted-1), d.IntN(api.MaxCuts+1), 1+d.IntN(5))
		fault := d.IntN(p.parts)
		steps, dark := p.cleared(fault)
		if len(steps) > 3 {
			long++
		}
		wantClear(t, p, fault, dark, steps...)
	}
	if long < 500 {
		t.Error("too few take long:", long)
	}
}

// P11.4: no stuck breaker leads out of what is dark, and without one of its parts one would; between it and the others all is open, and elsewhere nothing is; no breaker opens twice, nor a stuck one.
func TestWhatComesOfClear(t *testing.T) {
	d := rand.New(rand.NewPCG(11, 5))
	for range 3000 {
		p := drawnPlant(d, 2+d.IntN(api.MaxParted-1), d.IntN(api.MaxCuts+1), 1+d.IntN(5))
		fault := d.IntN(p.parts)
		steps, dark, e := protect.Clear(p.parts, p.cuts, fault, p.stuck)
		if e != api.OK || !dark[fault] {
			t.Fatal(p, fault, dark, e)
		}
		opened := slices.Sorted(slices.Values(slices.Concat(steps...)))
		if len(slices.Compact(slices.Clone(opened))) != len(opened) {
			t.Fatal("opened twice:", p, fault, steps)
		}
		for k, c := range p.cuts {
			open := slices.Contains(opened, k)
			if open && p.stuck[k] || open && !dark[c.A] && !dark[c.B] || !open && dark[c.A] != dark[c.B] {
				t.Fatal("breaker", k, p, fault, steps, dark)
			}
		}
		if !leastDark(p, fault, dark) {
			t.Fatal("not the least:", p, fault, dark)
		}
	}
}

// leastDark: of all sets that have the fault and that no stuck breaker leads out of, each has what is dark.
func leastDark(p plant, fault int, dark []bool) bool {
	for set := range 1 << p.parts {
		has := func(part int) bool { return set>>part&1 == 1 }
		shut := has(fault)
		for k, c := range p.cuts {
			shut = shut && !(p.stuck[k] && has(c.A) != has(c.B))
		}
		for part := range dark {
			if shut && dark[part] && !has(part) {
				return false
			}
		}
	}
	return true
}

// P11.4: too few or too many parts, too many breakers, too many or too few of whether they are stuck; whatever else is wrong.
func TestClearSize(t *testing.T) {
	for _, parts := range []int{0, -1, api.MaxParted + 1, math.MinInt, math.MaxInt, 1 << 32} {
		noClear(t, plant{parts: parts}, 0, api.ErrSize)
		noClear(t, plant{parts: parts}, -1, api.ErrSize)
		noClear(t, laid(parts, "ab"), 0, api.ErrSize)
		noClear(t, laid(parts, "aa"), 0, api.ErrSize)
	}
	for _, size := range []int{api.MaxCuts + 1, api.MaxCuts + 2, 1000} {
		noClear(t, laid(2, slices.Repeat([]string{"ab"}, size)...), 0, api.ErrSize)
		noClear(t, laid(2, slices.Repeat([]string{"aa"}, size)...), 2, api.ErrSize)
	}
	for size := range 30 {
		for _, breakers := range [][]string{nil, {"ab"}, {"aa"}, {"ab", "bc!", "bx"}, slices.Repeat([]string{"ab"}, api.MaxCuts)} {
			p := laid(3, breakers...)
			if size != len(p.cuts) {
				p.stuck = make([]bool, size)
				noClear(t, p, 0, api.ErrSize)
				noClear(t, p, 3, api.ErrSize)
			}
		}
	}
}

// P11.4: a breaker that stands wrong, wherever it is told, a fault that is nowhere.
func TestClearRange(t *testing.T) {
	var wrong []api.Cut
	for _, x := range []int{-1, 3, 12, math.MinInt, math.MaxInt} {
		wrong = append(wrong, api.Cut{A: x, B: 1}, api.Cut{A: 1, B: x}, api.Cut{A: x, B: x})
	}
	for x := range 3 {
		wrong = append(wrong, api.Cut{A: x, B: x})
	}
	for _, c := range wrong {
		for k := range 3 {
			for _, s := range []string{"ab", "ab!"} {
				p := laid(3, s, s, s)
				p.cuts[k] = c
				for fault := range 3 {
					noClear(t, p, fault, api.ErrRange)
				}
			}
		}
	}
	for _, fault := range []int{-1, 3, 12, math.MinInt, math.MaxInt} {
		noClear(t, laid(3), fault, api.ErrRange)
		noClear(t, laid(3, "ab!", "bc"), fault, api.ErrRange)
	}
	noClear(t, laid(1, "ab"), 0, api.ErrRange)
	noClear(t, laid(1), 1, api.ErrRange)
}

// P11.4: what is answered is new memory, and what is handed in stays as it is, its spare room too; and it matters not who else asks.
func TestClearOwnMemory(t *testing.T) {
	p := laid(5, "ab", "ac!", "cd", "ce", "ae")
	cuts, keptCuts := roomy(api.Cut{A: 9, B: 9}, p.cuts...)
	stuck, keptStuck := roomy(true, p.stuck...)
	var all sync.WaitGroup
	for range 20 {
		all.Go(func() {
			steps, dark, e := protect.Clear(5, cuts, 0, stuck)
			if len(steps) != 2 || !slices.Equal(steps[0], []int{0, 4}) || e != api.OK {
				t.Error(steps, e)
				return
			}
			fill(steps[0], -9)
			if !slices.Equal(steps[1], []int{2, 3}) || text(dark) != "10100" {
				t.Error("lists share memory:", steps, dark)
			}
			fill(steps[1], -9)
			fill(steps, nil)
			fill(dark, true)
		})
	}
	all.Wait()
	wantKept(t, cuts, keptCuts)
	wantKept(t, stuck, keptStuck)
}
