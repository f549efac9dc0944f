package yard

import (
	"slices"

	"gridworks/api"
)

func mayBe(y api.Yard) bool {
	if y.Points < 1 || y.Points > api.MaxPoints || len(y.Devices) > api.MaxDevices {
		return false
	}
	there := func(p int) bool { return 0 <= p && p < y.Points }
	rising := func(l []int) bool {
		for i, p := range l {
			if !there(p) || i > 0 && p <= l[i-1] {
				return false
			}
		}
		return true
	}
	wrong := func(d api.Device) bool {
		switch d.Kind {
		case api.Breaker, api.Blade:
			return !there(d.A) || !there(d.B) || d.A == d.B
		case api.Earth:
			return !there(d.A) || d.B != 0
		}
		return true
	}
	return rising(y.Fed) && rising(y.Drawn) && !slices.ContainsFunc(y.Devices, wrong)
}

// atWork is a yard at work: the plain one, and what its closed devices make of its points.
type atWork struct {
	api.Yard
	group   []int // points that are together are of one group
	live    []bool
	earthed []bool
	drawn   []bool // together with one that draws
}

// start: a yard that may be is at work from here on.
func start(y api.Yard) atWork {
	w := atWork{Yard: y}
	for p := range y.Points {
		w.group = append(w.group, p)
	}
	var earths []int
	for _, d := range y.Devices {
		switch {
		case d.Closed && d.Kind == api.Earth:
			earths = append(earths, d.A)
		case d.Closed:
			w.join(d.A, d.B)
		}
	}
	w.live, w.earthed, w.drawn = w.with(y.Fed), w.with(earths), w.with(y.Drawn)
	return w
}

// startSound: as start, of any yard; it is told whether it is one in which devices are moved.
func startSound(y api.Yard) (atWork, api.Errno) {
	if !mayBe(y) {
		return atWork{}, api.ErrState
	}
	w := start(y)
	if !w.sound() {
		return atWork{}, api.ErrState
	}
	return w, api.OK
}

// join all that is together with a, and with b.
func (w atWork) join(a, b int) {
	from, to := w.group[b], w.group[a]
	for p, g := range w.group {
		if g == from {
			w.group[p] = to
		}
	}
}

// with: of each point whether it is together with one of these.
func (w atWork) with(l []int) []bool {
	told := make([]bool, w.Points)
	for p, g := range w.group {
		told[p] = slices.ContainsFunc(l, func(q int) bool { return w.group[q] == g })
	}
	return told
}

func (w atWork) sound() bool {
	for p := range w.Points {
		if w.live[p] && w.earthed[p] {
			return false
		}
	}
	return true
}

// turned: the yard in which the device k is closed, if it was open, and open, if it was closed, whether it may be moved or not.
func (w atWork) turned(k int) atWork {
	y := w.Yard
	y.Devices = slices.Clone(y.Devices)
	y.Devices[k].Closed = !y.Devices[k].Closed
	return start(y)
}

// move the device k of a sound yard, if nothing is wrong with it.
func (w atWork) move(k int) (atWork, api.Errno) {
	for _, wrong := range w.wrongs(k) {
		if e := wrong(); e != api.OK {
			return atWork{}, e
		}
	}
	return w.turned(k), api.OK
}

// wrongs: each tells whether one thing is wrong with moving the device k, OK: it isn't; the first one to tell of something counts.
func (w atWork) wrongs(k int) []func() api.Errno {
	d := w.Devices[k]
	load := func() api.Errno {
		open := w
		if d.Closed {
			open = w.turned(k)
		}
		onto := func(a, b int) bool { return open.live[a] && (open.live[b] || open.drawn[b]) }
		if open.group[d.A] != open.group[d.B] && (onto(d.A, d.B) || onto(d.B, d.A)) {
			return api.ErrLoad
		}
		return api.OK
	}
	earth := func() api.Errno {
		if !d.Closed && !w.turned(k).sound() {
			return api.ErrEarth
		}
		return api.OK
	}
	live := func() api.Errno {
		if !d.Closed && w.live[d.A] {
			return api.ErrLive
		}
		return api.OK
	}
	switch d.Kind {
	case api.Breaker:
		return []func() api.Errno{earth}
	case api.Blade:
		return []func() api.Errno{load, earth}
	}
	return []func() api.Errno{live}
}
