package remote_test

import (
	"math"
	"slices"
	"sync"
	"testing"

	"gridworks/api"
	"gridworks/remote"
)

// P15.1: switches as they are told, and nothing else.
func TestBegin(t *testing.T) {
	for _, text := range []string{"", "0", "1", "0110", "1111111111111111"} {
		for _, patience := range []int{1, 7, api.MaxPatience} {
			s, e := remote.Begin(switches(text), patience)
			if want := (api.Station{Points: switches(text), Last: -1, Armed: -1, Patience: patience}); !alike(s, want) || e != api.OK {
				t.Errorf("Begin(%s, %d): %v, %d; %v is wanted", text, patience, s, e, want)
			}
			aStation(t, s)
		}
	}
	if s, e := remote.Begin(nil, 1); len(s.Points) > 0 || s.Patience != 1 || e != api.OK {
		t.Errorf("Begin of no switches: %v, %d", s, e)
	}
}

// P15.1: too many switches, told ahead of a patience that may not be.
func TestNotBegun(t *testing.T) {
	for _, c := range []struct {
		switches, patience int
		want               api.Errno
	}{
		{api.MaxSwitches + 1, 1, api.ErrSize},
		{100000, 1, api.ErrSize},
		{api.MaxSwitches + 1, 0, api.ErrSize},
		{api.MaxSwitches, 0, api.ErrRange},
		{0, 0, api.ErrRange},
		{2, -1, api.ErrRange},
		{2, api.MaxPatience + 1, api.ErrRange},
		{2, math.MinInt, api.ErrRange},
		{2, math.MaxInt, api.ErrRange},
	} {
		l := make([]bool, c.switches)
		fill(l, true)
		if s, e := remote.Begin(l, c.patience); !alike(s, api.Station{}) || e != c.want {
			t.Errorf("Begin(%d switches, %d): %v, %d; %d is wanted", c.switches, c.patience, s, e, c.want)
		}
	}
}

// P15.1: stations that just may be.
func TestStations(t *testing.T) {
	full := idle("0000000000000000", -1, api.MaxPatience)
	aStation(t, full)
	aStation(t, armed(full, api.MaxNo, api.MaxSwitches-1, true, api.MaxPatience))
	aStation(t, armed(full, 0, 0, false, 1))
	aStation(t, idle("", api.MaxNo, 1))
	aStation(t, idle("1", -1, 1))
	aStation(t, armed(idle("1", api.MaxNo-1, 1), api.MaxNo, 0, true, 1))
	aStation(t, armed(idle("11", 5, 3), 6, 1, false, 3))
	aStation(t, armed(idle("11", 5, 3), 900, 1, false, 2))
}

// P15.1: stations that may not be.
func TestNoStations(t *testing.T) {
	noStation(t, api.Station{})
	noStation(t, idle("00000000000000000", -1, 5))
	for _, patience := range []int{0, -1, api.MaxPatience + 1, math.MinInt, math.MaxInt} {
		noStation(t, idle("01", -1, patience))
		noStation(t, armed(idle("01", -1, patience), 2, 0, true, 1))
	}
	for _, last := range []int{-2, api.MaxNo + 1, math.MinInt, math.MaxInt} {
		noStation(t, idle("01", last, 5))
		noStation(t, armed(idle("01", last, 5), 7, 0, true, 1))
		noStation(t, armed(idle("01", last, 5), last+1, 0, true, 1))
	}
}

// P15.1: what a station may not be armed with.
func TestNotArmed(t *testing.T) {
	s := idle("01", 5, 3)
	noStation(t, armed(s, -1, 1, false, 0))
	noStation(t, armed(s, -1, 0, true, 0))
	noStation(t, armed(s, -1, 0, false, 1))
	noStation(t, armed(s, -1, -1, false, 0))
	noStation(t, armed(s, -1, 1, true, 2))
	for _, no := range []int{-2, 0, 4, 5, api.MaxNo + 1, math.MinInt, math.MaxInt} {
		noStation(t, armed(s, no, 1, true, 2))
		noStation(t, armed(s, no, 0, false, 0))
	}
	noStation(t, armed(idle("01", api.MaxNo, 3), api.MaxNo, 1, true, 2))
	noStation(t, armed(idle("01", api.MaxNo, 3), api.MaxNo+1, 1, true, 2))
	for _, point := range []int{-1, 2, math.MinInt, math.MaxInt} {
		noStation(t, armed(s, 6, point, true, 2))
	}
	noStation(t, armed(idle("", -1, 3), 6, 0, true, 2))
	for _, left := range []int{0, -1, 4, math.MinInt, math.MaxInt} {
		noStation(t, armed(s, 6, 1, true, left))
	}
}

// P15.2: kinds that a station does not hear, told ahead of a number that may not be.
func TestOtherKinds(t *testing.T) {
	for _, s := range []api.Station{idle("01", 5, 3), armed(idle("01", 5, 3), 8, 1, true, 2), idle("", -1, 1)} {
		for _, kind := range []int{0, -1, api.Ready, api.Done, api.Refused, 6, math.MinInt, math.MaxInt} {
			noHear(t, s, msg(kind, 8, 1, true), api.ErrKind)
			noHear(t, s, msg(kind, 5, 1, true), api.ErrKind)
			noHear(t, s, msg(kind, -1, 1, true), api.ErrKind)
		}
		for _, no := range []int{-1, api.MaxNo + 1, math.MinInt, math.MaxInt} {
			noHear(t, s, msg(api.Select, no, 1, true), api.ErrRange)
			noHear(t, s, msg(api.Operate, no, 1, true), api.ErrRange)
			noHear(t, s, msg(api.Operate, no, 0, false), api.ErrRange)
		}
	}
}

// P15.2: the number that was carried out last is Done, whatever else is asked.
func TestDoneAgain(t *testing.T) {
	for _, s := range []api.Station{idle("01", 5, 3), armed(idle("01", 5, 3), 8, 1, true, 2)} {
		for _, kind := range []int{api.Select, api.Operate} {
			for _, point := range []int{0, 1, 2, -1, math.MaxInt} {
				wantHear(t, s, msg(kind, 5, point, true), s, msg(api.Done, 5, point, true))
				wantHear(t, s, msg(kind, 5, point, false), s, msg(api.Done, 5, point, false))
			}
		}
	}
	last := idle("01", api.MaxNo, 3)
	wantHear(t, last, msg(api.Operate, api.MaxNo, 0, true), last, msg(api.Done, api.MaxNo, 0, true))
}

// P15.2: older numbers are not answered; an Operate ahead of what is armed is refused, but no more than that.
func TestOlder(t *testing.T) {
	for _, s := range []api.Station{idle("01", 5, 3), armed(idle("01", 5, 3), 8, 1, true, 2)} {
		for _, no := range []int{0, 4} {
			for _, point := range []int{1, 2, -1} {
				wantHear(t, s, msg(api.Select, no, point, true), s)
				wantHear(t, s, msg(api.Operate, no, point, true), s)
			}
		}
	}
	s := armed(idle("01", 5, 3), 8, 1, true, 2)
	for _, no := range []int{6, 7} {
		wantHear(t, s, msg(api.Select, no, 1, true), s)
		wantHear(t, s, msg(api.Select, no, 2, true), s)
		wantHear(t, s, msg(api.Operate, no, 1, true), s, msg(api.Refused, no, 1, true))
	}
}

// P15.2: a Select arms with a switch that is there, once more too, and otherwise too.
func TestSelect(t *testing.T) {
	s := idle("01", 5, 3)
	for _, no := range []int{6, 9, api.MaxNo} {
		for point := range 2 {
			wantHear(t, s, msg(api.Select, no, point, true), armed(s, no, point, true, 3), msg(api.Ready, no, point, true))
			wantHear(t, s, msg(api.Select, no, point, false), armed(s, no, point, false, 3), msg(api.Ready, no, point, false))
		}
	}
	fresh := idle("0000000000000000", -1, api.MaxPatience)
	wantHear(t, fresh, msg(api.Select, 0, 15, true), armed(fresh, 0, 15, true, api.MaxPatience), msg(api.Ready, 0, 15, true))
	was := armed(s, 8, 1, true, 1)
	wantHear(t, was, msg(api.Select, 8, 1, true), armed(s, 8, 1, true, 3), msg(api.Ready, 8, 1, true))
	wantHear(t, was, msg(api.Select, 8, 0, true), armed(s, 8, 0, true, 3), msg(api.Ready, 8, 0, true))
	wantHear(t, was, msg(api.Select, 8, 1, false), armed(s, 8, 1, false, 3), msg(api.Ready, 8, 1, false))
	wantHear(t, was, msg(api.Select, 9, 0, false), armed(s, 9, 0, false, 3), msg(api.Ready, 9, 0, false))
}

// P15.2: a switch that is not there is refused; what is armed stays so.
func TestNoSuchSwitch(t *testing.T) {
	for _, s := range []api.Station{idle("01", 5, 3), armed(idle("01", 5, 3), 8, 1, true, 2)} {
		for _, point := range []int{2, -1, 15, math.MinInt, math.MaxInt} {
			wantHear(t, s, msg(api.Select, 8, point, true), s, msg(api.Refused, 8, point, true))
			wantHear(t, s, msg(api.Operate, 8, point, true), s, msg(api.Refused, 8, point, true))
		}
	}
	none := idle("", -1, 3)
	wantHear(t, none, msg(api.Select, 0, 0, true), none, msg(api.Refused, 0, 0, true))
	wantHear(t, none, msg(api.Operate, 0, 0, false), none, msg(api.Refused, 0, 0, false))
}

// P15.2: an Operate of just what is armed moves that switch alone, also one that stands so.
func TestOperate(t *testing.T) {
	for _, c := range []struct {
		ahead, behind string
		point         int
		want          bool
	}{
		{"0000", "0100", 1, true}, {"1111", "1101", 2, false}, {"0010", "0010", 2, true}, {"0010", "0010", 3, false}, {"0000", "1000", 0, true},
	} {
		s := armed(idle(c.ahead, 5, 3), 8, c.point, c.want, 1)
		wantHear(t, s, msg(api.Operate, 8, c.point, c.want), idle(c.behind, 8, 3), msg(api.Done, 8, c.point, c.want))
	}
	s := armed(idle("0", -1, 1), api.MaxNo, 0, true, 1)
	wantHear(t, s, msg(api.Operate, api.MaxNo, 0, true), idle("1", api.MaxNo, 1), msg(api.Done, api.MaxNo, 0, true))
}

// P15.2: an Operate of anything else is refused, and changes nothing.
func TestOtherOperate(t *testing.T) {
	s := armed(idle("0000", 5, 3), 8, 1, true, 2)
	for _, m := range []api.Msg{msg(api.Operate, 8, 1, false), msg(api.Operate, 8, 0, true), msg(api.Operate, 7, 1, true), msg(api.Operate, 9, 1, true)} {
		answer := m
		answer.Kind = api.Refused
		wantHear(t, s, m, s, answer)
	}
	for _, last := range []int{-1, 5} {
		s = idle("0000", last, 3)
		wantHear(t, s, msg(api.Operate, 8, 0, false), s, msg(api.Refused, 8, 0, false))
	}
	s = armed(idle("1000", -1, 3), 0, 0, false, 3)
	wantHear(t, s, msg(api.Operate, 1, 0, false), s, msg(api.Refused, 1, 0, false))
}

// P15.3: what is armed is so for as many ticks as the patience, less one; then it is not.
func TestTicks(t *testing.T) {
	for _, patience := range []int{1, 2, 7, api.MaxPatience} {
		s := idle("01", 5, patience)
		s, l, e := remote.Hear(s, msg(api.Select, 8, 1, true))
		for left := patience - 1; left > 0; left-- {
			if s, e = remote.Tick(s); !alike(s, armed(idle("01", 5, patience), 8, 1, true, left)) || e != api.OK {
				t.Fatalf("%v, %d; %d are left", s, e, left)
			}
		}
		if s.Left != 1 || len(l) != 1 {
			t.Errorf("patience %d: %v, %v", patience, s, l)
		}
		wantTick(t, s, idle("01", 5, patience))
	}
	wantTick(t, armed(idle("01", 5, 3), 6, 0, false, 1), idle("01", 5, 3))
	wantTick(t, armed(idle("01", 5, 3), 6, 0, false, 3), armed(idle("01", 5, 3), 6, 0, false, 2))
}

// P15.3: what is not armed does not wait.
func TestIdleTicks(t *testing.T) {
	for _, s := range []api.Station{idle("", -1, 1), idle("01", 5, 3), idle("1", api.MaxNo, api.MaxPatience)} {
		wantTick(t, s, s)
	}
}

// P15.1, P15.2, P15.3: switches that are handed in stay as they are, their spare room too.
func TestStationKept(t *testing.T) {
	l, kept := roomy(true, switches("0101")...)
	s, _ := remote.Begin(l, 3)
	wantKept(t, l, kept)
	fill(s.Points, true)
	wantKept(t, l, kept)
	for _, m := range []api.Msg{msg(api.Operate, 8, 0, true), msg(api.Select, 9, 0, true), msg(api.Select, 2, 0, true), msg(0, 8, 0, true), msg(api.Select, -1, 0, true)} {
		s = armed(api.Station{Points: l, Last: 5, Patience: 3}, 8, 0, true, 1)
		z, _, _ := remote.Hear(s, m)
		wantKept(t, l, kept)
		fill(z.Points, true)
		fill(z.Points, false)
		wantKept(t, l, kept)
	}
	z, _ := remote.Tick(s)
	fill(z.Points, true)
	fill(z.Points, false)
	wantKept(t, l, kept)
}

// P15.1, P15.2, P15.3: no answer shares its memory with another one, or with what was handed in.
func TestStationNew(t *testing.T) {
	l := switches("0101")
	s, _ := remote.Begin(l, 3)
	fill(l, true)
	a, up, _ := remote.Hear(s, msg(api.Select, 8, 0, true))
	b, _, _ := remote.Hear(a, msg(api.Operate, 8, 0, true))
	c, _ := remote.Tick(a)
	d, again, _ := remote.Hear(s, msg(api.Select, 8, 0, true))
	k, _, _ := remote.Hear(s, msg(0, 8, 0, true))
	r, _, _ := remote.Hear(s, msg(api.Select, -1, 0, true))
	fill(s.Points, true)
	fill(a.Points, true)
	fill(up, api.Msg{})
	for i, z := range []api.Station{b, c, d, k, r} {
		want := "0101"
		if i == 0 {
			want = "1101"
		}
		if !slices.Equal(z.Points, switches(want)) {
			t.Errorf("answer %d: %v; %s is wanted", i, z.Points, want)
		}
		fill(z.Points, true)
	}
	if !slices.Equal(again, []api.Msg{msg(api.Ready, 8, 0, true)}) {
		t.Error(again)
	}
}

// P15.2: what is answered does not hang on who else asks at the same time, of the same station.
func TestStationAtOnce(t *testing.T) {
	s := armed(idle("0000", 5, 3), 8, 1, true, 2)
	var all sync.WaitGroup
	for range 8 {
		all.Go(func() {
			for range 200 {
				wantHear(t, s, msg(api.Operate, 8, 1, true), idle("0100", 8, 3), msg(api.Done, 8, 1, true))
				wantTick(t, s, armed(idle("0000", 5, 3), 8, 1, true, 1))
			}
		})
	}
	all.Wait()
}
