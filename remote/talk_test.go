package remote_test

import (
	"math/rand/v2"
	"slices"
	"testing"

	"gridworks/api"
	"gridworks/remote"
)

// P15.2, P15.5, P15.6: a whole command: selected, ready, operated, done.
func TestCommand(t *testing.T) {
	s, _ := remote.Begin(switches("000"), 5)
	m, _ := remote.Open(2, 3)
	wantAsk(t, m, 1, true, busy(resting(1, 2, 3), api.Select, 1, true), msg(api.Select, 0, 1, true))
	wantHear(t, s, msg(api.Select, 0, 1, true), armed(s, 0, 1, true, 5), msg(api.Ready, 0, 1, true))
	wantHeard(t, busy(resting(1, 2, 3), api.Select, 1, true), msg(api.Ready, 0, 1, true), busy(resting(1, 2, 3), api.Operate, 1, true), msg(api.Operate, 0, 1, true))
	wantHear(t, armed(s, 0, 1, true, 5), msg(api.Operate, 0, 1, true), idle("010", 0, 5), msg(api.Done, 0, 1, true))
	wantHeard(t, busy(resting(1, 2, 3), api.Operate, 1, true), msg(api.Done, 0, 1, true), resting(1, 2, 3))
}

// talk: a master and a station, what is on its way, and what was given and carried out.
type talk struct {
	t       *testing.T
	s       api.Station
	m       api.Master
	down    []sent
	up      []sent
	given   []api.Msg // by its number
	carried []int     // numbers, one after the other
}

// sent: a message, and when it comes.
type sent struct {
	at int
	api.Msg
}

func talking(t *testing.T, points, wait, patience, limit int) *talk {
	s, e := remote.Begin(make([]bool, points), wait)
	m, f := remote.Open(patience, limit)
	if e != api.OK || f != api.OK {
		t.Fatal(e, f)
	}
	return &talk{t: t, s: s, m: m}
}

// carries: what goes over the line at a time: when each message of a list comes, as often as it does.
type carries func(now int) []int

func send(now int, l []sent, news []api.Msg, when carries) []sent {
	for _, m := range news {
		for _, at := range when(now) {
			l = append(l, sent{at, m})
		}
	}
	return l
}

// due: those that come now, and those that do not yet.
func due(now int, l []sent) (come, stay []sent) {
	for _, x := range l {
		if x.at <= now {
			come = append(come, x)
		} else {
			stay = append(stay, x)
		}
	}
	return come, stay
}

func (k *talk) ask(now, point int, want bool, when carries) {
	m, l, e := remote.Ask(k.m, point, want)
	k.m = m
	if e == api.OK {
		k.given = append(k.given, msg(0, len(k.given), point, want))
		k.down = send(now, k.down, l, when)
	}
}

// hear: the station hears one; if it carries out a command, it is looked at.
func (k *talk) hear(now int, m api.Msg, when carries) {
	z, l, e := remote.Hear(k.s, m)
	if e != api.OK {
		k.t.Fatalf("Hear(%v, %v): %d", k.s, m, e)
	}
	if z.Last != k.s.Last {
		k.look(z)
	} else if !slices.Equal(z.Points, k.s.Points) {
		k.t.Fatalf("Hear(%v, %v): %v: switches moved without a command", k.s, m, z)
	}
	k.s = z
	k.up = send(now, k.up, l, when)
}

// look: is what was carried out a command that was given, as it was given, and not behind a later one?
func (k *talk) look(z api.Station) {
	no := z.Last
	if no < 0 || no >= len(k.given) || len(k.carried) > 0 && no <= k.carried[len(k.carried)-1] {
		k.t.Fatalf("%d is carried out, of %d; behind %v", no, len(k.given), k.carried)
	}
	want := slices.Clone(k.s.Points)
	want[k.given[no].Point] = k.given[no].Want
	if !slices.Equal(z.Points, want) {
		k.t.Fatalf("%v is carried out: %v; %v is wanted", k.given[no], z.Points, want)
	}
	k.carried = append(k.carried, no)
}

func (k *talk) step(now int, when carries) {
	var come []sent
	come, k.down = due(now, k.down)
	for _, x := range come {
		k.hear(now, x.Msg, when)
	}
	come, k.up = due(now, k.up)
	for _, x := range come {
		m, l, e := remote.Heard(k.m, x.Msg)
		if e != api.OK {
			k.t.Fatalf("Heard(%v, %v): %d", k.m, x.Msg, e)
		}
		k.m = m
		k.down = send(now, k.down, l, when)
	}
	var l []api.Msg
	var e, f api.Errno
	k.s, e = remote.Tick(k.s)
	k.m, l, f = remote.Wait(k.m)
	if e != api.OK || f != api.OK {
		k.t.Fatal(e, f)
	}
	k.down = send(now, k.down, l, when)
}

// bad: a line that loses, doubles and delays by chance, so that messages overtake each other.
func bad(d *rand.Rand, longest int) carries {
	return func(now int) []int {
		var l []int
		for d.IntN(3) > 0 && len(l) < 4 {
			l = append(l, now+d.IntN(longest+1))
		}
		return l
	}
}

// even: a line that loses nothing, and takes as long each time.
func even(way int) carries {
	return func(now int) []int { return []int{now + way} }
}

// What comes of it: over the worst of lines no command is carried out twice, otherwise, or behind a later one.
func TestBadLine(t *testing.T) {
	d := rand.New(rand.NewPCG(15, 1))
	carried, given := 0, 0
	for range 300 {
		k := talking(t, 1+d.IntN(4), 1+d.IntN(20), 1+d.IntN(6), 1+d.IntN(5))
		line := bad(d, d.IntN(25))
		for now := range 300 {
			if d.IntN(4) == 0 {
				k.ask(now, d.IntN(len(k.s.Points)), d.IntN(2) == 0, line)
			}
			k.step(now, line)
		}
		carried += len(k.carried)
		given += len(k.given)
	}
	if carried < 1000 || carried == given {
		t.Errorf("%d of %d are carried out", carried, given)
	}
}

// What comes of it: whatever was lost ahead, when nothing is lost any more the command that is under way is carried out, once, if the master asks for it once more, and both have longer patience than the way there and back.
func TestLineMended(t *testing.T) {
	d := rand.New(rand.NewPCG(15, 2))
	gone := 0
	for range 1000 {
		way := 1 + d.IntN(7)
		k := talking(t, 1+d.IntN(4), 2*way+1+d.IntN(3), 2*way+1+d.IntN(3), 1+d.IntN(5))
		line := bad(d, 20)
		now := 0
		for ; now < 100 || k.m.Phase == 0; now++ {
			k.ask(now, d.IntN(len(k.s.Points)), d.IntN(2) == 0, line)
			k.step(now, line)
		}
		k.down, k.up = nil, nil
		no, last := k.m.Now, k.m.Tries == k.m.Limit
		for range 500 {
			k.step(now, even(way))
			now++
		}
		if k.m.Phase != 0 || k.m.Gave != last || !last && !slices.Contains(k.carried, no) {
			t.Fatalf("command %d, way %d: %+v, carried out: %v", no, way, k.m, k.carried)
		}
		if last {
			gone++
		}
	}
	if gone == 0 || gone > 900 {
		t.Errorf("%d of 1000 were asked for the last time", gone)
	}
}

// What comes of it: a station whose patience is just the way there and back is armed no more when it is to operate; with one tick more it is.
func TestWayThereAndBack(t *testing.T) {
	for way := 1; way < 10; way++ {
		for more := range 2 {
			k := talking(t, 1, 2*way+more, 2*way+1, 1)
			k.ask(0, 0, true, even(way))
			for now := range 1000 {
				k.step(now, even(way))
			}
			if len(k.carried) != more || (k.m.Phase == 0) != (more == 1) || k.m.Gave {
				t.Errorf("way %d, patience %d: %v, %+v", way, k.s.Patience, k.carried, k.m)
			}
		}
	}
}

// What comes of it: over a line that loses nothing each command is carried out, in their order.
func TestGoodLine(t *testing.T) {
	for way := 1; way < 5; way++ {
		k := talking(t, 4, 2*way+1, 2*way+1, 1)
		for now := range 1000 {
			if k.m.Phase == 0 {
				k.ask(now, now%4, now%3 == 0, even(way))
			}
			k.step(now, even(way))
		}
		if k.m.Gave || len(k.given) < 50 || len(k.carried) < len(k.given)-1 || !slices.IsSorted(k.carried) || len(slices.Compact(k.carried)) != len(k.carried) {
			t.Errorf("way %d: %d given, %d carried out, %+v", way, len(k.given), len(k.carried), k.m)
		}
	}
}

// Whatever a master and a station come to by calls may be, and goes on.
func TestAnyCalls(t *testing.T) {
	d := rand.New(rand.NewPCG(15, 3))
	for range 200 {
		s, _ := remote.Begin(make([]bool, d.IntN(4)), 1+d.IntN(3))
		m, _ := remote.Open(1+d.IntN(3), 1+d.IntN(3))
		for range 300 {
			x := msg(d.IntN(7), m.No+d.IntN(4)-2, d.IntN(5)-1, d.IntN(2) == 0)
			var e [5]api.Errno
			s, _, e[0] = remote.Hear(s, x)
			m, _, e[1] = remote.Heard(m, x)
			m, _, e[2] = remote.Ask(m, x.Point, x.Want)
			s, e[3] = remote.Tick(s)
			m, _, e[4] = remote.Wait(m)
			if slices.Contains(e[:], api.ErrState) {
				t.Fatalf("%v, %+v behind %v: %v", s, m, x, e)
			}
		}
	}
}
