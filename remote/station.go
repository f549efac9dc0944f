package remote

import "gridworks/api"

// none: no command's number, which is below all of them.
const none = -1

// silence: in the place of an answer's kind: there is none.
const silence = 0

// station at work.
type station struct{ api.Station }

// atWork: with switches of its own, so that those that were handed in stay as they are.
func atWork(s api.Station) *station {
	s.Points = append([]bool(nil), s.Points...)
	return &station{s}
}

func stationMayBe(s api.Station) bool {
	w := station{s}
	return len(w.Points) <= api.MaxSwitches && within(w.Patience, 1, api.MaxPatience) &&
		within(w.Last, none, api.MaxNo) && (w.idle() || w.armedWell())
}

// idle: is it armed with nothing at all?
func (w *station) idle() bool {
	return w.Armed == none && w.Point == 0 && !w.Want && w.Left == 0
}

func (w *station) armedWell() bool {
	return within(w.Armed, w.Last+1, api.MaxNo) && w.has(w.Point) && within(w.Left, 1, w.Patience)
}

// has: is there such a switch?
func (w *station) has(point int) bool { return within(point, 0, len(w.Points)-1) }

// does: what a message of this kind does, which tells the answer's kind; nil: a station hears none of this kind.
func (w *station) does(kind int) func(api.Msg) int {
	switch kind {
	case api.Select:
		return w.choose
	case api.Operate:
		return w.operate
	}
	return nil
}

// choose: a Select.
func (w *station) choose(m api.Msg) int {
	switch {
	case m.No == w.Last:
		return api.Done
	case m.No < w.Last || m.No < w.Armed:
		return silence
	case !w.has(m.Point):
		return api.Refused
	}
	w.Armed, w.Point, w.Want, w.Left = m.No, m.Point, m.Want, w.Patience
	return api.Ready
}

// operate: an Operate.
func (w *station) operate(m api.Msg) int {
	switch {
	case m.No == w.Last:
		return api.Done
	case m.No < w.Last:
		return silence
	case m.No != w.Armed || m.Point != w.Point || m.Want != w.Want:
		return api.Refused
	}
	w.Points[m.Point] = m.Want
	w.Last = m.No
	w.disarm()
	return api.Done
}

func (w *station) disarm() { w.Armed, w.Point, w.Want, w.Left = none, 0, false, 0 }

func (w *station) tick() {
	if w.Armed == none {
		return
	}
	w.Left--
	if w.Left == 0 {
		w.disarm()
	}
}

// answers to a message: one of this kind, or none.
func answers(m api.Msg, kind int) []api.Msg {
	if kind == silence {
		return nil
	}
	m.Kind = kind
	return []api.Msg{m}
}
