package remote_test

import (
	"math"
	"sync"
	"testing"

	"gridworks/api"
	"gridworks/remote"
)

// P15.4: a master without a command, and with the first number ahead.
func TestOpen(t *testing.T) {
	for _, patience := range []int{1, 7, api.MaxPatience} {
		for _, limit := range []int{1, 7, api.MaxTries} {
			m, e := remote.Open(patience, limit)
			if m != (api.Master{Patience: patience, Limit: limit}) || e != api.OK {
				t.Errorf("Open(%d, %d): %+v, %d", patience, limit, m, e)
			}
			aMaster(t, m)
		}
	}
}

// P15.4: patience and limit that may not be.
func TestNotOpened(t *testing.T) {
	for _, c := range [][2]int{{0, 1}, {-1, 1}, {api.MaxPatience + 1, 1}, {1, 0}, {1, -1}, {1, api.MaxTries + 1}, {0, 0}, {math.MinInt, 1}, {1, math.MinInt}, {math.MaxInt, 1}, {1, math.MaxInt}} {
		if m, e := remote.Open(c[0], c[1]); m != (api.Master{}) || e != api.ErrRange {
			t.Errorf("Open(%d, %d): %+v, %d; %d is wanted", c[0], c[1], m, e, api.ErrRange)
		}
	}
}

// P15.4: masters that just may be.
func TestMasters(t *testing.T) {
	for _, no := range []int{0, 1, api.MaxNo, api.MaxNo + 1} {
		aMaster(t, resting(no, 1, 1))
		aMaster(t, gaveUp(resting(no, api.MaxPatience, api.MaxTries)))
		for _, phase := range []int{api.Select, api.Operate} {
			aMaster(t, busy(resting(no, 1, 1), phase, 0, true))
			aMaster(t, waited(busy(resting(no, 5, 3), phase, api.MaxSwitches-1, false), 4, 3))
		}
	}
}

// P15.4: masters without a command that may not be.
func TestNoMasters(t *testing.T) {
	noMaster(t, api.Master{})
	for _, no := range []int{-1, api.MaxNo + 2, math.MinInt, math.MaxInt} {
		noMaster(t, resting(no, 5, 3))
		noMaster(t, busy(resting(no, 5, 3), api.Select, 0, true))
	}
	for _, x := range []int{0, -1, math.MinInt, math.MaxInt} {
		noMaster(t, resting(4, x, 3))
		noMaster(t, resting(4, 5, x))
	}
	noMaster(t, resting(4, api.MaxPatience+1, 3))
	noMaster(t, resting(4, 5, api.MaxTries+1))
	for _, x := range []int{1, -1, 3} {
		for field := range 4 {
			m := resting(4, 5, 3)
			*[]*int{&m.Now, &m.Point, &m.Timer, &m.Tries}[field] = x
			noMaster(t, m)
			noMaster(t, gaveUp(m))
		}
	}
	m := resting(4, 5, 3)
	m.Want = true
	noMaster(t, m)
}

// P15.4: masters with a command that may not be.
func TestNoBusyMasters(t *testing.T) {
	for _, phase := range []int{-1, api.Ready, api.Done, api.Refused, 6, math.MinInt, math.MaxInt} {
		noMaster(t, busy(resting(4, 5, 3), phase, 0, true))
	}
	for _, phase := range []int{api.Select, api.Operate} {
		m := busy(resting(4, 5, 3), phase, 7, true)
		for _, x := range []int{-1, 0, 2, 4, 5, math.MinInt, math.MaxInt} {
			other := m
			other.Now = x
			noMaster(t, other)
		}
		for _, x := range []int{-1, api.MaxSwitches, math.MinInt, math.MaxInt} {
			other := m
			other.Point = x
			noMaster(t, other)
		}
		for _, x := range []int{-1, 5, 6, math.MinInt, math.MaxInt} {
			noMaster(t, waited(m, x, 1))
		}
		for _, x := range []int{-1, 0, 4, math.MinInt, math.MaxInt} {
			noMaster(t, waited(m, 0, x))
		}
		noMaster(t, gaveUp(m))
		noMaster(t, busy(resting(4, 0, 3), phase, 7, true))
		noMaster(t, busy(resting(4, api.MaxPatience+1, 3), phase, 7, true))
		noMaster(t, busy(resting(4, 5, 0), phase, 7, true))
		noMaster(t, busy(resting(4, 5, api.MaxTries+1), phase, 7, true))
	}
}

// P15.5: a command has the next number; that the last one was given up is told no more.
func TestAsk(t *testing.T) {
	for _, no := range []int{0, 4, api.MaxNo} {
		for _, point := range []int{0, 7, api.MaxSwitches - 1} {
			for _, want := range []bool{false, true} {
				then := busy(resting(no+1, 5, 3), api.Select, point, want)
				wantAsk(t, resting(no, 5, 3), point, want, then, msg(api.Select, no, point, want))
				wantAsk(t, gaveUp(resting(no, 5, 3)), point, want, then, msg(api.Select, no, point, want))
			}
		}
	}
}

// P15.5: what is refused, and what is told first.
func TestNotAsked(t *testing.T) {
	for _, phase := range []int{api.Select, api.Operate} {
		noAsk(t, busy(resting(4, 5, 3), phase, 7, true), 2, api.ErrFull)
		noAsk(t, busy(resting(4, 5, 3), phase, 7, true), -1, api.ErrFull)
		noAsk(t, busy(resting(api.MaxNo+1, 5, 3), phase, 7, true), 2, api.ErrFull)
	}
	for _, point := range []int{-1, api.MaxSwitches, math.MinInt, math.MaxInt} {
		noAsk(t, resting(4, 5, 3), point, api.ErrRange)
		noAsk(t, gaveUp(resting(4, 5, 3)), point, api.ErrRange)
		noAsk(t, resting(api.MaxNo+1, 5, 3), point, api.ErrRange)
	}
	noAsk(t, resting(api.MaxNo+1, 5, 3), 0, api.ErrEnd)
	noAsk(t, gaveUp(resting(api.MaxNo+1, 5, 3)), 15, api.ErrEnd)
}

// P15.6: kinds that a master does not hear, also when it would do nothing with them.
func TestOtherAnswers(t *testing.T) {
	for _, m := range []api.Master{resting(4, 5, 3), gaveUp(resting(4, 5, 3)), waited(busy(resting(4, 5, 3), api.Select, 7, true), 2, 2), waited(busy(resting(4, 5, 3), api.Operate, 7, true), 2, 2)} {
		for _, kind := range []int{0, -1, api.Select, api.Operate, 6, math.MinInt, math.MaxInt} {
			noHeard(t, m, msg(kind, 3, 7, true))
			noHeard(t, m, msg(kind, 9, 7, true))
		}
	}
}

// P15.6: answers to other commands, or to none: nothing.
func TestNotAnswered(t *testing.T) {
	for _, kind := range []int{api.Ready, api.Done, api.Refused} {
		for _, phase := range []int{api.Select, api.Operate} {
			m := waited(busy(resting(4, 5, 3), phase, 7, true), 2, 2)
			for _, no := range []int{0, 2, 4, -1, math.MinInt, math.MaxInt} {
				wantHeard(t, m, msg(kind, no, 7, true), m)
			}
		}
		for _, m := range []api.Master{resting(0, 5, 3), resting(1, 5, 3), resting(4, 5, 3), gaveUp(resting(1, 5, 3))} {
			wantHeard(t, m, msg(kind, 0, 0, false), m)
			wantHeard(t, m, msg(kind, m.No-1, 7, true), m)
			wantHeard(t, m, msg(kind, m.No, 7, true), m)
		}
	}
}

// P15.6: Done: none is under way any more, in whatever phase, and it did not give up.
func TestDone(t *testing.T) {
	for _, phase := range []int{api.Select, api.Operate} {
		for _, m := range []api.Master{busy(resting(4, 5, 3), phase, 7, true), waited(busy(resting(4, 5, 3), phase, 0, false), 4, 3)} {
			wantHeard(t, m, msg(api.Done, 3, 7, true), resting(4, 5, 3))
			wantHeard(t, m, msg(api.Done, 3, -5, false), resting(4, 5, 3))
		}
	}
}

// P15.6: Ready, when it has selected: it operates just what it asked for, whatever else the answer says; later ones do nothing.
func TestReady(t *testing.T) {
	m := waited(busy(resting(4, 5, 3), api.Select, 7, true), 4, 3)
	for _, a := range []api.Msg{msg(api.Ready, 3, 7, true), msg(api.Ready, 3, 8, false), msg(api.Ready, 3, math.MaxInt, true)} {
		wantHeard(t, m, a, busy(resting(4, 5, 3), api.Operate, 7, true), msg(api.Operate, 3, 7, true))
		on := waited(busy(resting(4, 5, 3), api.Operate, 7, true), 2, 2)
		wantHeard(t, on, a, on)
	}
}

// P15.6: Refused: it selects once more, when it let it operate; else it gives up.
func TestRefused(t *testing.T) {
	m := waited(busy(resting(4, 5, 3), api.Operate, 7, false), 4, 3)
	for _, a := range []api.Msg{msg(api.Refused, 3, 7, false), msg(api.Refused, 3, 8, true)} {
		wantHeard(t, m, a, busy(resting(4, 5, 3), api.Select, 7, false), msg(api.Select, 3, 7, false))
		wantHeard(t, waited(busy(resting(4, 5, 3), api.Select, 7, false), 4, 3), a, gaveUp(resting(4, 5, 3)))
		wantHeard(t, busy(resting(4, 5, 3), api.Select, 7, true), a, gaveUp(resting(4, 5, 3)))
	}
}

// P15.7: a whole wait: each time that its patience ends it asks once more, until it has asked as often as it may.
func TestWaits(t *testing.T) {
	for _, phase := range []int{api.Select, api.Operate} {
		for _, c := range [][2]int{{1, 1}, {1, 3}, {4, 1}, {4, 3}, {api.MaxPatience, 2}, {2, api.MaxTries}} {
			start := busy(resting(4, c[0], c[1]), phase, 7, true)
			m := start
			for k := 1; k < c[0]*c[1]; k++ {
				next := waited(start, k%c[0], 1+k/c[0])
				if k%c[0] == 0 {
					wantWait(t, m, next, msg(phase, 3, 7, true))
				} else {
					wantWait(t, m, next)
				}
				m = next
			}
			wantWait(t, m, gaveUp(resting(4, c[0], c[1])))
		}
	}
}

// P15.7: who has no command does not wait.
func TestNoWait(t *testing.T) {
	for _, m := range []api.Master{resting(0, 1, 1), resting(4, 5, 3), gaveUp(resting(4, 1, 1)), resting(api.MaxNo+1, api.MaxPatience, api.MaxTries)} {
		wantWait(t, m, m)
	}
}

// P15.4: by its words Now is No less 1 also where No is 0: such a master goes on as others do.
func TestNumberBelowNone(t *testing.T) {
	m := busy(resting(0, 5, 3), api.Select, 7, true)
	wantHeard(t, m, msg(api.Ready, -1, 7, true), busy(resting(0, 5, 3), api.Operate, 7, true), msg(api.Operate, -1, 7, true))
	wantWait(t, waited(m, 4, 1), waited(m, 0, 2), msg(api.Select, -1, 7, true))
	noAsk(t, m, 0, api.ErrFull)
}

// P15.5, P15.6, P15.7: no two lists that are answered share their memory.
func TestMasterNew(t *testing.T) {
	a := resting(4, 1, 3)
	for range 2 {
		m, select1, _ := remote.Ask(a, 7, true)
		_, select2, _ := remote.Wait(m)
		_, operate, _ := remote.Heard(m, msg(api.Ready, 4, 7, true))
		for _, l := range [][]api.Msg{select1, select2, operate} {
			if len(l) != 1 || l[0].No != 4 || l[0].Point != 7 {
				t.Error(l)
			}
			fill(l, api.Msg{})
		}
	}
}

// P15.6: what is answered does not hang on who else asks at the same time.
func TestMasterAtOnce(t *testing.T) {
	m := busy(resting(4, 5, 3), api.Select, 7, true)
	var all sync.WaitGroup
	for range 8 {
		all.Go(func() {
			for range 200 {
				wantHeard(t, m, msg(api.Ready, 3, 7, true), busy(resting(4, 5, 3), api.Operate, 7, true), msg(api.Operate, 3, 7, true))
				wantWait(t, m, waited(m, 1, 1))
			}
		})
	}
	all.Wait()
}
