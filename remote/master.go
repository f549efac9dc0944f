package remote

import "gridworks/api"

// resting: the Phase of a master without a command.
const resting = 0

// master at work.
type master struct{ api.Master }

// bounded: are patience and limit as they may be?
func bounded(m api.Master) bool {
	return within(m.Patience, 1, api.MaxPatience) && within(m.Limit, 1, api.MaxTries)
}

func masterMayBe(m api.Master) bool {
	if !bounded(m) || !within(m.No, 0, api.MaxNo+1) {
		return false
	}
	return m == atRest(m) || busyWell(m)
}

// atRest: what a master is without its command.
func atRest(m api.Master) api.Master {
	return api.Master{No: m.No, Patience: m.Patience, Limit: m.Limit, Gave: m.Gave}
}

// busyWell: is a command under way, as it may be?
func busyWell(m api.Master) bool {
	return (m.Phase == api.Select || m.Phase == api.Operate) && m.Now == m.No-1 &&
		within(m.Point, 0, api.MaxSwitches-1) && within(m.Timer, 0, m.Patience-1) &&
		within(m.Tries, 1, m.Limit) && !m.Gave
}

// command: takes the next number.
func (w *master) command(point int, want bool) []api.Msg {
	w.Now, w.Point, w.Want, w.Gave = w.No, point, want, false
	w.No++
	return w.enter(api.Select)
}

// enter a phase, and ask for the first time.
func (w *master) enter(phase int) []api.Msg {
	w.Phase, w.Timer, w.Tries = phase, 0, 1
	return w.asked()
}

// asked: what goes to the station; phases are kinds of messages.
func (w *master) asked() []api.Msg {
	return []api.Msg{{Kind: w.Phase, No: w.Now, Point: w.Point, Want: w.Want}}
}

// does: what an answer of this kind does, and what goes then; nil: a master hears none of this kind.
func (w *master) does(kind int) func() []api.Msg {
	switch kind {
	case api.Ready:
		return w.ready
	case api.Done:
		return w.done
	case api.Refused:
		return w.refused
	}
	return nil
}

func (w *master) ready() []api.Msg {
	if w.Phase == api.Select {
		return w.enter(api.Operate)
	}
	return nil
}

func (w *master) done() []api.Msg {
	w.Master = atRest(w.Master)
	return nil
}

func (w *master) refused() []api.Msg {
	if w.Phase == api.Operate { // the station waited for too long, and may be armed once more
		return w.enter(api.Select)
	}
	return w.giveUp()
}

func (w *master) giveUp() []api.Msg {
	w.Gave = true
	w.Master = atRest(w.Master)
	return nil
}

func (w *master) tick() []api.Msg {
	w.Timer++
	if w.Timer < w.Patience {
		return nil
	}
	if w.Tries == w.Limit {
		return w.giveUp()
	}
	w.Timer = 0
	w.Tries++
	return w.asked()
}
