package works

import "gridworks/api"

// refused: what is wrong with an event, in a world that may be.
func refused(w api.World, e api.Event) api.Errno {
	count, most, kind := reach(w.Net, e.Kind)
	switch {
	case kind != api.OK:
		return kind
	case !within(e.At, 0, count-1) || !within(e.To, 0, most):
		return api.ErrRange
	case w.Now == maxNow:
		return api.ErrEnd
	}
	return api.OK
}

// reach of events of a kind: how many things there are to which they can happen, and what To is at most. ErrKind: it is none of an event.
func reach(n api.Net, kind int) (count, most int, e api.Errno) {
	switch kind {
	case api.Fails, api.Mend:
		return len(n.Lines), 0, api.OK
	case api.Switch:
		return len(n.Ties), 1, api.OK
	case api.Draw:
		return len(n.Loads), api.MaxPower, api.OK
	case api.Start:
		return len(n.Gens), 1, api.OK
	}
	return 0, 0, api.ErrKind
}

// happen: what an event does by itself, ahead of what comes of it.
func (w *world) happen(e api.Event) {
	switch e.Kind {
	case api.Fails:
		w.Out[e.At] = true
	case api.Mend:
		w.Out[e.At] = false
	case api.Switch:
		w.Net.Ties[e.At].Closed = e.To == 1
	case api.Draw:
		w.Net.Loads[e.At].Power = e.To
	case api.Start:
		w.On[e.At] = e.To == 1
	}
}
