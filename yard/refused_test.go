package yard_test

import (
	"math"
	"slices"
	"testing"

	"gridworks/api"
)

// bend a yard that may be, and is sound.
func bend(f func(y *api.Yard)) api.Yard {
	y := laid("3 0 2 d01 b12 e2")
	f(&y)
	return y
}

// bent: yards that may not be.
func bent() []api.Yard {
	l := []api.Yard{
		{},
		bend(func(y *api.Yard) { y.Points = 0 }),
		bend(func(y *api.Yard) { y.Points = -1 }),
		bend(func(y *api.Yard) { y.Points = math.MinInt }),
		bend(func(y *api.Yard) { y.Points = 2 }),
		bend(func(y *api.Yard) { y.Points = api.MaxPoints + 1 }),
		bend(func(y *api.Yard) { y.Points = math.MaxInt }),
		{Points: api.MaxPoints + 1},
		{Points: -1},
		{Points: math.MinInt},
		bend(func(y *api.Yard) { y.Devices = slices.Repeat(y.Devices[:1], api.MaxDevices+1) }),
		bend(func(y *api.Yard) { y.Devices = make([]api.Device, 1000) }),
	}
	for _, p := range [][]int{{-1}, {3}, {math.MinInt}, {math.MaxInt}, {0, 3}, {-1, 0}, {1, 0}, {2, 1}, {0, 0}, {2, 2}, {0, 1, 1}, {0, 2, 1}, {0, 1, 2, 3}, {0, 1, 2, 2}, {1, 2, 0}} {
		l = append(l, bend(func(y *api.Yard) { y.Fed = p }), bend(func(y *api.Yard) { y.Drawn = p }))
	}
	for _, d := range bentDevices() {
		for k := range 3 {
			for _, closed := range []bool{false, true} {
				d.Closed = closed
				l = append(l, bend(func(y *api.Yard) { y.Devices[k] = d }))
			}
		}
	}
	return l
}

// bentDevices: of a yard of three points.
func bentDevices() []api.Device {
	var l []api.Device
	for _, kind := range []int{0, -1, 4, math.MinInt, math.MaxInt} {
		l = append(l, api.Device{Kind: kind, A: 0, B: 1}, api.Device{Kind: kind, A: 1, B: 0})
	}
	for _, kind := range []int{api.Breaker, api.Blade} {
		for p := range 3 {
			l = append(l, api.Device{Kind: kind, A: p, B: p})
		}
		for _, p := range []int{-1, 3, math.MinInt, math.MaxInt} {
			l = append(l, api.Device{Kind: kind, A: p, B: 1}, api.Device{Kind: kind, A: 1, B: p}, api.Device{Kind: kind, A: p, B: p})
		}
	}
	for _, p := range []int{-1, 3, math.MinInt, math.MaxInt} {
		l = append(l, api.Device{Kind: api.Earth, A: p}, api.Device{Kind: api.Earth, A: 1, B: p})
	}
	return append(l, api.Device{Kind: api.Earth, A: 0, B: 1}, api.Device{Kind: api.Earth, A: 1, B: 1}, api.Device{Kind: api.Earth, A: 1, B: 2})
}

// P10.1: yards that may not be, whatever is asked of them.
func TestMayNotBe(t *testing.T) {
	for _, y := range bent() {
		noLook(t, y)
		for _, k := range []int{0, 1, 2, -1, 3, math.MaxInt} {
			noMove(t, y, k, api.ErrState)
		}
		noPlan(t, y, closedOf(y), api.ErrState)
		noPlan(t, y, make([]bool, len(y.Devices)), api.ErrState)
		noPlan(t, y, make([]bool, len(y.Devices)+1), api.ErrState)
		noPlan(t, y, nil, api.ErrState)
	}
}

// P10.1: yards that may be, at the edges of it.
func TestMayBe(t *testing.T) {
	for _, y := range []api.Yard{
		laid("1 - -"), laid("1 0 0"), laid("1 - - e0 e0 E0"), laid("2 01 01 b01 b10 D01 D10"), laid("3 012 012"), laid("3 2 - b12 b02"), laid("3 - 2 e2 e1 e0"),
		laid("X 09 5 b90 d09 e9 e0"), laid("X 0123456789 0123456789 b01 b01 b01 b01 b01 b01 b01 b01 b01 b01"),
	} {
		live, earthed := make([]bool, y.Points), make([]bool, y.Points)
		for p := range y.Points {
			live[p], earthed[p] = isLive(y, p), isEarthed(y, p)
		}
		wantLook(t, y, text(live), text(earthed))
		wantPlan(t, y, text(closedOf(y)))
		if len(y.Devices) > 0 && judged(y, 0) == api.OK {
			wantMove(t, y, 0)
		}
	}
}

// P10.3 and P10.4: nothing is moved in a yard that is not sound, not even what would mend it.
func TestUnsound(t *testing.T) {
	for _, s := range []string{"1 0 - E0", "1 0 0 E0", "2 1 - B01 E0", "2 1 - D01 E0", "3 2 0 B01 B12 E0 e1", "X 9 - E9", "X 9 - e0 E9 E8"} {
		y := laid(s)
		for k := -1; k <= len(y.Devices); k++ {
			noMove(t, y, k, api.ErrState)
		}
		noMove(t, y, math.MinInt, api.ErrState)
		noPlan(t, y, closedOf(y), api.ErrState)
		noPlan(t, y, make([]bool, len(y.Devices)), api.ErrState)
		noPlan(t, y, make([]bool, len(y.Devices)+1), api.ErrState)
		noPlan(t, y, nil, api.ErrState)
	}
}

// P10.3: there is no such device.
func TestNoDevice(t *testing.T) {
	for _, s := range []string{"1 - -", "3 0 2 d01 b12 e2", "X 9 0 D98 B87 D76 B65 D54 b43 D32 B21 D10 e0"} {
		y := laid(s)
		for _, k := range []int{-1, len(y.Devices), len(y.Devices) + 1, 10, 11, 63, 64, math.MinInt, math.MaxInt} {
			noMove(t, y, k, api.ErrRange)
		}
	}
}

// P10.4: a goal tells of each device, whatever it tells.
func TestGoalSize(t *testing.T) {
	for _, s := range []string{"1 - -", "1 0 - e0", "3 0 2 d01 b12 e2", "X 9 0 D98 B87 D76 B65 D54 b43 D32 B21 D10 e0"} {
		y := laid(s)
		for size := range 80 {
			if size != len(y.Devices) {
				noPlan(t, y, make([]bool, size), api.ErrSize)
				noPlan(t, y, slices.Repeat([]bool{true}, size), api.ErrSize)
			}
		}
	}
}
