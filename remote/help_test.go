package remote_test

import (
	"slices"
	"testing"

	"gridworks/api"
	"gridworks/remote"
)

// switches by a text: 1 is closed.
func switches(text string) []bool {
	l := make([]bool, len(text))
	for i := range l {
		l[i] = text[i] == '1'
	}
	return l
}

// idle: a station that is not armed.
func idle(text string, last, patience int) api.Station {
	return api.Station{Points: switches(text), Last: last, Armed: -1, Patience: patience}
}

// armed: a station that is armed with a command, for so long yet.
func armed(s api.Station, no, point int, want bool, left int) api.Station {
	s.Armed, s.Point, s.Want, s.Left = no, point, want, left
	return s
}

// resting: a master without a command.
func resting(no, patience, limit int) api.Master {
	return api.Master{No: no, Patience: patience, Limit: limit}
}

// busy: a master with its last command under way, which it has just asked for.
func busy(m api.Master, phase, point int, want bool) api.Master {
	m.Phase, m.Now, m.Point, m.Want, m.Timer, m.Tries = phase, m.No-1, point, want, 0, 1
	return m
}

// waited: a master that has waited so long, and asked so often.
func waited(m api.Master, timer, tries int) api.Master {
	m.Timer, m.Tries = timer, tries
	return m
}

func gaveUp(m api.Master) api.Master {
	m.Gave = true
	return m
}

func msg(kind, no, point int, want bool) api.Msg {
	return api.Msg{Kind: kind, No: no, Point: point, Want: want}
}

func alike(a, b api.Station) bool {
	return slices.Equal(a.Points, b.Points) && a.Last == b.Last && a.Armed == b.Armed && a.Point == b.Point &&
		a.Want == b.Want && a.Left == b.Left && a.Patience == b.Patience
}

// wantHear: the station behind it, and what it answers.
func wantHear(t *testing.T, s api.Station, m api.Msg, want api.Station, answers ...api.Msg) {
	t.Helper()
	if z, l, e := remote.Hear(s, m); !alike(z, want) || !slices.Equal(l, answers) || e != api.OK {
		t.Errorf("Hear(%v, %v): %v, %v, %d; %v, %v is wanted", s, m, z, l, e, want, answers)
	}
}

// noHear: whether a message is refused; a station that may not be is not answered, another one is as it was.
func noHear(t *testing.T, s api.Station, m api.Msg, want api.Errno) {
	t.Helper()
	left := s
	if want == api.ErrState {
		left = api.Station{}
	}
	if z, l, e := remote.Hear(s, m); !alike(z, left) || len(l) > 0 || e != want {
		t.Errorf("Hear(%v, %v): %v, %v, %d; %v, %d is wanted", s, m, z, l, e, left, want)
	}
}

func wantTick(t *testing.T, s, want api.Station) {
	t.Helper()
	if z, e := remote.Tick(s); !alike(z, want) || e != api.OK {
		t.Errorf("Tick(%v): %v, %d; %v is wanted", s, z, e, want)
	}
}

// noStation: whether a station may not be, whatever is done with it.
func noStation(t *testing.T, s api.Station) {
	t.Helper()
	if z, e := remote.Tick(s); !alike(z, api.Station{}) || e != api.ErrState {
		t.Errorf("Tick(%v): %v, %d; %d is wanted", s, z, e, api.ErrState)
	}
	noHear(t, s, msg(api.Select, 5, 0, true), api.ErrState)
	noHear(t, s, msg(api.Operate, -1, 0, true), api.ErrState)
	noHear(t, s, msg(0, 5, 0, true), api.ErrState)
}

// aStation: whether a station may be.
func aStation(t *testing.T, s api.Station) {
	t.Helper()
	if z, e := remote.Tick(s); len(z.Points) != len(s.Points) || e != api.OK {
		t.Errorf("Tick(%v): %v, %d", s, z, e)
	}
	noHear(t, s, msg(api.Ready, 5, 0, true), api.ErrKind)
	noHear(t, s, msg(api.Select, -1, 0, true), api.ErrRange)
}

// wantAfter: whether a master did this: what Ask, Heard and Wait answer stands ahead.
func wantAfter(t *testing.T, z api.Master, l []api.Msg, e api.Errno, want api.Master, goes ...api.Msg) {
	t.Helper()
	if z != want || !slices.Equal(l, goes) || e != api.OK {
		t.Errorf("%+v, %v, %d; %+v, %v is wanted", z, l, e, want, goes)
	}
}

func wantAsk(t *testing.T, m api.Master, point int, want bool, then api.Master, goes ...api.Msg) {
	t.Helper()
	z, l, e := remote.Ask(m, point, want)
	wantAfter(t, z, l, e, then, goes...)
}

func wantHeard(t *testing.T, m api.Master, a api.Msg, then api.Master, goes ...api.Msg) {
	t.Helper()
	z, l, e := remote.Heard(m, a)
	wantAfter(t, z, l, e, then, goes...)
}

func wantWait(t *testing.T, m, then api.Master, goes ...api.Msg) {
	t.Helper()
	z, l, e := remote.Wait(m)
	wantAfter(t, z, l, e, then, goes...)
}

// noAsk: whether a command is refused, and the master is as it was.
func noAsk(t *testing.T, m api.Master, point int, want api.Errno) {
	t.Helper()
	if z, l, e := remote.Ask(m, point, true); z != m || len(l) > 0 || e != want {
		t.Errorf("Ask(%+v, %d): %+v, %v, %d; %d is wanted", m, point, z, l, e, want)
	}
}

// noHeard: whether an answer's kind is refused, and the master is as it was.
func noHeard(t *testing.T, m api.Master, a api.Msg) {
	t.Helper()
	if z, l, e := remote.Heard(m, a); z != m || len(l) > 0 || e != api.ErrKind {
		t.Errorf("Heard(%+v, %v): %+v, %v, %d; %d is wanted", m, a, z, l, e, api.ErrKind)
	}
}

// noMaster: whether a master may not be, whatever is done with it.
func noMaster(t *testing.T, m api.Master) {
	t.Helper()
	refused := func(z api.Master, l []api.Msg, e api.Errno) {
		t.Helper()
		if z != (api.Master{}) || len(l) > 0 || e != api.ErrState {
			t.Errorf("%+v: %+v, %v, %d; %d is wanted", m, z, l, e, api.ErrState)
		}
	}
	refused(remote.Ask(m, 0, true))
	refused(remote.Ask(m, -1, true))
	refused(remote.Heard(m, msg(api.Done, m.Now, 0, true)))
	refused(remote.Heard(m, msg(0, m.Now, 0, true)))
	refused(remote.Wait(m))
}

// aMaster: whether a master may be.
func aMaster(t *testing.T, m api.Master) {
	t.Helper()
	if z, _, e := remote.Wait(m); z.No != m.No || e != api.OK {
		t.Errorf("Wait(%+v): %+v, %d", m, z, e)
	}
	noHeard(t, m, msg(0, m.Now, 0, true))
}

// roomy: a list with spare room, and a copy of it with that.
func roomy[T any](spare T, l ...T) (list, kept []T) {
	list = append(append(make([]T, 0, len(l)+5), l...), spare, spare)[:len(l)]
	return list, slices.Clone(list[:cap(list)])
}

func wantKept[T comparable](t *testing.T, l, kept []T) {
	t.Helper()
	if !slices.Equal(l[:cap(l)], kept) {
		t.Errorf("changed: %v; %v is wanted", l[:cap(l)], kept)
	}
}

// fill a list with what it hasn't, its spare room too.
func fill[T any](l []T, x T) {
	l = l[:cap(l)]
	for i := range l {
		l[i] = x
	}
}
