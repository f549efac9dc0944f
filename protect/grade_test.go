package protect_test

import (
	"math"
	"math/rand/v2"
	"slices"
	"sync"
	"testing"

	"gridworks/api"
	"gridworks/protect"
)

// P11.3: base where none is behind, else step more than the greatest of those behind.
func TestGrade(t *testing.T) {
	wantGrade(t, []int{-1}, 5, 3, 5)
	wantGrade(t, []int{-1, 0}, 5, 3, 8, 5)
	wantGrade(t, []int{-1, -1, -1}, 5, 3, 5, 5, 5)
	wantGrade(t, []int{-1, 0, 1, 2}, 5, 3, 14, 11, 8, 5)
	wantGrade(t, []int{-1, 0, 0, 0}, 5, 3, 8, 5, 5, 5)
	wantGrade(t, []int{-1, 0, 0, 1}, 5, 3, 11, 8, 5, 5) // the greatest is told first
	wantGrade(t, []int{-1, 0, 0, 2}, 5, 3, 11, 5, 8, 5) // and last
	wantGrade(t, []int{-1, 0, 1, 1, 0, 3}, 20, 7, 41, 34, 20, 27, 20, 20)
	wantGrade(t, []int{-1, -1, 0, 1, 3}, 1, 10, 11, 21, 1, 11, 1)
}

// P11.3: no breakers, no base, no step, and as many and as great ones as may be.
func TestGradeEdges(t *testing.T) {
	wantGrade(t, nil, 5, 3)
	wantGrade(t, []int{}, 0, 0)
	wantGrade(t, []int{-1, 0, 1}, 0, 0, 0, 0, 0)
	wantGrade(t, []int{-1, 0, 1}, 7, 0, 7, 7, 7)
	wantGrade(t, []int{-1, 0, 1}, 0, 7, 14, 7, 0)
	const most = api.MaxTime
	var row, want []int
	for k := range api.MaxCuts {
		row, want = append(row, k-1), append(want, (api.MaxCuts-k)*most)
	}
	wantGrade(t, row, most, most, want...)
	wantGrade(t, slices.Repeat([]int{-1}, api.MaxCuts), most, 0, slices.Repeat([]int{most}, api.MaxCuts)...)
}

// timed: the tests' own way: of a breaker the time, by asking for those behind it.
func timed(behind []int, base, step, k int) int {
	var l []int
	for j, b := range behind {
		if b == k {
			l = append(l, timed(behind, base, step, j)+step)
		}
	}
	if len(l) == 0 {
		return base
	}
	return slices.Max(l)
}

// P11.3: drawn breakers; each one's time is at least step below that of the one it is behind.
func TestDrawnGrades(t *testing.T) {
	d := rand.New(rand.NewPCG(11, 3))
	for range 4000 {
		var behind, want []int
		for k := range d.IntN(api.MaxCuts + 1) {
			behind = append(behind, max(-1, k-1-d.IntN(1+d.IntN(k+2))))
		}
		base, step := d.IntN(50), d.IntN(20)
		if d.IntN(4) == 0 {
			base, step = d.IntN(api.MaxTime+1), d.IntN(api.MaxTime+1)
		}
		for k := range behind {
			want = append(want, timed(behind, base, step, k))
		}
		wantGrade(t, behind, base, step, want...)
		l, _ := protect.Grade(behind, base, step)
		for k, b := range behind {
			if b >= 0 && l[k]+step > l[b] {
				t.Fatal("too late:", behind, base, step, l)
			}
		}
	}
}

// P11.3: too many breakers, whatever else is wrong.
func TestGradeSize(t *testing.T) {
	for _, size := range []int{api.MaxCuts + 1, api.MaxCuts + 2, 1000} {
		noGrade(t, slices.Repeat([]int{-1}, size), 5, 3, api.ErrSize)
		noGrade(t, slices.Repeat([]int{-2}, size), -1, -1, api.ErrSize)
	}
}

// P11.3: a breaker behind itself, or a greater one, or none that may be told; base or step out of range.
func TestGradeRange(t *testing.T) {
	for _, behind := range [][]int{
		{0}, {-2}, {1}, {math.MinInt}, {math.MaxInt}, {-1, 1}, {-1, 2}, {-1, -2}, {1, -1}, {1, 0}, {-1, 0, 2}, {-1, 0, 3}, {-1, 2, 0}, {-1, 0, math.MinInt}, {-1, 0, math.MaxInt}, {-1, 0, -3},
	} {
		noGrade(t, behind, 5, 3, api.ErrRange)
		noGrade(t, behind, 0, 0, api.ErrRange)
	}
	for _, x := range []int{-1, api.MaxTime + 1, math.MinInt, math.MaxInt, 1 << 32} {
		for _, behind := range [][]int{nil, {-1}, {-1, 0}} {
			noGrade(t, behind, x, 3, api.ErrRange)
			noGrade(t, behind, 3, x, api.ErrRange)
			noGrade(t, behind, x, x, api.ErrRange)
		}
	}
}

// P11.3: what is answered is new memory, and what is handed in stays as it is, its spare room too; and it matters not who else asks.
func TestGradeOwnMemory(t *testing.T) {
	behind, kept := roomy(9, -1, 0, 1)
	var all sync.WaitGroup
	for range 20 {
		all.Go(func() {
			l, e := protect.Grade(behind, 5, 3)
			if !slices.Equal(l, []int{11, 8, 5}) || e != api.OK {
				t.Error(l, e)
			}
			fill(l, -9)
		})
	}
	all.Wait()
	wantKept(t, behind, kept)
}
