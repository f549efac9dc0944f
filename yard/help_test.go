package yard_test

import (
	"math/rand/v2"
	"slices"
	"strings"
	"testing"

	"gridworks/api"
	"gridworks/yard"
)

// laid: a yard by a text: how many points, the fed ones, those that draw (- for none; X for ten points), then its devices by kind and points: b a Breaker, d a Blade (a disconnector), e an Earth; in capitals they are closed.
func laid(s string) api.Yard {
	l := strings.Fields(s)
	y := api.Yard{Points: strings.Index("0123456789X", l[0]), Fed: points(l[1]), Drawn: points(l[2])}
	for _, x := range l[3:] {
		kind := strings.ToLower(x[:1])
		d := api.Device{Kind: 1 + strings.Index("bde", kind), A: int(x[1] - '0'), Closed: x[:1] != kind}
		if d.Kind != api.Earth {
			d.B = int(x[2] - '0')
		}
		y.Devices = append(y.Devices, d)
	}
	return y
}

func points(s string) []int {
	var l []int
	for _, c := range strings.Trim(s, "-") {
		l = append(l, int(c-'0'))
	}
	return l
}

// bits: which are so, by a text: 1 is so.
func bits(s string) []bool {
	l := make([]bool, len(s))
	for i := range s {
		l[i] = s[i] == '1'
	}
	return l
}

// apart: a yard in memory of its own.
func apart(y api.Yard) api.Yard {
	y.Fed, y.Drawn, y.Devices = slices.Clone(y.Fed), slices.Clone(y.Drawn), slices.Clone(y.Devices)
	return y
}

// flip a device, whether it may be moved or not.
func flip(y api.Yard, k int) api.Yard {
	y = apart(y)
	y.Devices[k].Closed = !y.Devices[k].Closed
	return y
}

func same(a, b api.Yard) bool {
	return a.Points == b.Points && slices.Equal(a.Fed, b.Fed) && slices.Equal(a.Drawn, b.Drawn) && slices.Equal(a.Devices, b.Devices)
}

// wantLook: which points are live, and earthed, by texts.
func wantLook(t *testing.T, y api.Yard, live, earthed string) {
	t.Helper()
	l, g, e := yard.Look(y)
	if !slices.Equal(l, bits(live)) || !slices.Equal(g, bits(earthed)) || e != api.OK {
		t.Errorf("Look(%v): %v, %v, %d; %s, %s is wanted", y, l, g, e, live, earthed)
	}
}

// noLook: whether Look refuses, with nothing beside it.
func noLook(t *testing.T, y api.Yard) {
	t.Helper()
	if l, g, e := yard.Look(y); len(l) > 0 || len(g) > 0 || e != api.ErrState {
		t.Errorf("Look(%v): %v, %v, %d; %d is wanted", y, l, g, e, api.ErrState)
	}
}

// wantMove: whether the device k is moved, and nothing else changes.
func wantMove(t *testing.T, y api.Yard, k int) {
	t.Helper()
	want := flip(y, k)
	if z, e := yard.Move(y, k); !same(z, want) || e != api.OK {
		t.Errorf("Move(%v, %d): %v, %d; %v is wanted", y, k, z, e, want)
	}
}

func noMove(t *testing.T, y api.Yard, k int, want api.Errno) {
	t.Helper()
	if z, e := yard.Move(y, k); !same(z, api.Yard{}) || e != want {
		t.Errorf("Move(%v, %d): %v, %d; %d is wanted", y, k, z, e, want)
	}
}

func wantPlan(t *testing.T, y api.Yard, goal string, want ...int) {
	t.Helper()
	if l, e := yard.Plan(y, bits(goal)); !slices.Equal(l, want) || e != api.OK {
		t.Errorf("Plan(%v, %s): %v, %d; %v is wanted", y, goal, l, e, want)
	}
}

func noPlan(t *testing.T, y api.Yard, goal []bool, want api.Errno) {
	t.Helper()
	if l, e := yard.Plan(y, goal); len(l) > 0 || e != want {
		t.Errorf("Plan(%v, %v): %v, %d; %d is wanted", y, goal, l, e, want)
	}
}

// reach: the tests' own way to what is together with a point: on and on over each closed device.
func reach(y api.Yard, from int) []bool {
	got := make([]bool, y.Points)
	todo := []int{from}
	for len(todo) > 0 {
		p := todo[0]
		todo = todo[1:]
		if got[p] {
			continue
		}
		got[p] = true
		for _, d := range y.Devices {
			if d.Closed && d.Kind != api.Earth && (d.A == p || d.B == p) {
				todo = append(todo, d.A+d.B-p)
			}
		}
	}
	return got
}

// touches: is the point together with one of these?
func touches(y api.Yard, p int, l []int) bool {
	got := reach(y, p)
	return slices.ContainsFunc(l, func(q int) bool { return got[q] })
}

func isLive(y api.Yard, p int) bool { return touches(y, p, y.Fed) }

func isEarthed(y api.Yard, p int) bool {
	var l []int
	for _, d := range y.Devices {
		if d.Kind == api.Earth && d.Closed {
			l = append(l, d.A)
		}
	}
	return touches(y, p, l)
}

func isSound(y api.Yard) bool {
	for p := range y.Points {
		if isLive(y, p) && isEarthed(y, p) {
			return false
		}
	}
	return true
}

// judged: the tests' own Move of a device that there is, in a sound yard.
func judged(y api.Yard, k int) api.Errno {
	d := y.Devices[k]
	if d.Kind == api.Blade {
		open := apart(y)
		open.Devices[k].Closed = false
		if !reach(open, d.A)[d.B] {
			a, b := isLive(open, d.A), isLive(open, d.B)
			if a && b || a && touches(open, d.B, y.Drawn) || b && touches(open, d.A, y.Drawn) {
				return api.ErrLoad
			}
		}
	}
	switch {
	case d.Kind != api.Earth && !d.Closed && !isSound(flip(y, k)):
		return api.ErrEarth
	case d.Kind == api.Earth && !d.Closed && isLive(y, d.A):
		return api.ErrLive
	}
	return api.OK
}

// set: the yard in which just those devices are closed whose bits the number has.
func set(y api.Yard, closed int) api.Yard {
	y = apart(y)
	for k := range y.Devices {
		y.Devices[k].Closed = closed>>k&1 == 1
	}
	return y
}

// number: as set takes it.
func number(closed []bool) int {
	n := 0
	for k, c := range closed {
		if c {
			n += 1 << k
		}
	}
	return n
}

func closedOf(y api.Yard) []bool {
	var l []bool
	for _, d := range y.Devices {
		l = append(l, d.Closed)
	}
	return l
}

// moves: of all settings of a yard's devices, and each device, whether it may be moved.
func moves(y api.Yard) [][]bool {
	may := make([][]bool, 1<<len(y.Devices))
	for n := range may {
		z := set(y, n)
		sound := isSound(z)
		for k := range z.Devices {
			may[n] = append(may[n], sound && judged(z, k) == api.OK)
		}
	}
	return may
}

// far: of each setting how many moves it is away from the goal (-1: none leads there), by asking all of them again and again.
func far(may [][]bool, goal int) []int {
	away := slices.Repeat([]int{-1}, len(may))
	away[goal] = 0
	for round, more := 1, true; more; round++ {
		more = false
		for n := range away {
			for k := range may[n] {
				if away[n] < 0 && may[n][k] && away[n^1<<k] == round-1 {
					away[n], more = round, true
				}
			}
		}
	}
	return away
}

// foremost: the shortest row of moves, the least device that comes nearer at each; nil and false: there is none.
func foremost(may [][]bool, from, goal int) ([]int, bool) {
	away := far(may, goal)
	if away[from] < 0 {
		return nil, false
	}
	var l []int
	for n := from; n != goal; {
		for k := range may[n] {
			if may[n][k] && away[n^1<<k] == away[n]-1 {
				l = append(l, k)
				n ^= 1 << k
				break
			}
		}
	}
	return l, true
}

// drawnYard: of so many points and devices, one in so many of which is closed.
func drawnYard(d *rand.Rand, points, devices, closed int) api.Yard {
	y := api.Yard{Points: points}
	for p := range points {
		if d.IntN(4) == 0 {
			y.Fed = append(y.Fed, p)
		}
		if d.IntN(4) == 0 {
			y.Drawn = append(y.Drawn, p)
		}
	}
	for range devices {
		x := api.Device{Kind: api.Earth, A: d.IntN(points), Closed: d.IntN(closed) == 0}
		if points > 1 && d.IntN(4) > 0 {
			x.Kind, x.B = api.Breaker+d.IntN(2), (x.A+1+d.IntN(points-1))%points
		}
		y.Devices = append(y.Devices, x)
	}
	return y
}

// drawnSound: as drawnYard, but sound: Earths that must not be closed are open.
func drawnSound(d *rand.Rand, points, devices, closed int) api.Yard {
	y := drawnYard(d, points, devices, closed)
	for k, x := range y.Devices {
		if x.Kind == api.Earth && isLive(y, x.A) {
			y.Devices[k].Closed = false
		}
	}
	return y
}

// drawnGoal: which devices are to be closed.
func drawnGoal(d *rand.Rand, count int) []bool {
	l := make([]bool, count)
	for k := range l {
		l[k] = d.IntN(2) == 0
	}
	return l
}
