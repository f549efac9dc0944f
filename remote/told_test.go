package remote_test

import (
	"fmt"
	"slices"
	"testing"

	"gridworks/api"
	"gridworks/remote"
)

// held: what a station is armed with, in the tests' own way: a command, and for how long yet.
type held struct {
	no, point int
	want      bool
	left      int
}

// far: a station in the tests' own way: armed with one or with nothing.
type far struct {
	closed   []bool
	last     int
	armed    *held
	patience int
}

// read: the station, and whether it may be.
func (f *far) read(s api.Station) bool {
	*f = far{slices.Clone(s.Points), s.Last, nil, s.Patience}
	if len(s.Points) > 16 || s.Patience < 1 || s.Patience > 1000 || s.Last < -1 || s.Last > 1000000000 {
		return false
	}
	if s.Armed == -1 {
		return fmt.Sprint(s.Point, s.Want, s.Left) == "0 false 0"
	}
	f.armed = &held{s.Armed, s.Point, s.Want, s.Left}
	tooLow, tooHigh := s.Armed <= s.Last || s.Point < 0 || s.Left <= 0, s.Armed > 1000000000 || s.Point >= len(s.Points) || s.Left > s.Patience
	return !tooLow && !tooHigh
}

func (f *far) shown() api.Station {
	s := api.Station{Points: f.closed, Last: f.last, Armed: -1, Patience: f.patience}
	if f.armed != nil {
		s.Armed, s.Point, s.Want, s.Left = f.armed.no, f.armed.point, f.armed.want, f.armed.left
	}
	return s
}

// tell a Select, or an Operate; what is answered, as a letter: D(one), R(efused), Y (ready), or nothing.
func (f *far) tell(m api.Msg) string {
	if m.No <= f.last {
		if m.No == f.last {
			return "D"
		}
		return ""
	}
	if m.Kind == 1 {
		if f.armed != nil && f.armed.no > m.No {
			return ""
		}
		if m.Point >= 0 && m.Point < len(f.closed) {
			f.armed = &held{m.No, m.Point, m.Want, f.patience}
			return "Y"
		}
		return "R"
	}
	if f.armed != nil && *f.armed == (held{m.No, m.Point, m.Want, f.armed.left}) {
		f.closed[m.Point], f.last, f.armed = m.Want, m.No, nil
		return "D"
	}
	return "R"
}

// toldHear: the tests' own Hear.
func toldHear(s api.Station, m api.Msg) (api.Station, []api.Msg, api.Errno) {
	f := &far{}
	switch {
	case !f.read(s):
		return api.Station{}, nil, api.ErrState
	case m.Kind != 1 && m.Kind != 3:
		return s, nil, api.ErrKind
	case m.No < 0 || m.No > 1000000000:
		return s, nil, api.ErrRange
	}
	var l []api.Msg
	switch f.tell(m) {
	case "D":
		l = []api.Msg{{Kind: 4, No: m.No, Point: m.Point, Want: m.Want}}
	case "R":
		l = []api.Msg{{Kind: 5, No: m.No, Point: m.Point, Want: m.Want}}
	case "Y":
		l = []api.Msg{{Kind: 2, No: m.No, Point: m.Point, Want: m.Want}}
	}
	return f.shown(), l, api.OK
}

func toldTick(s api.Station) (api.Station, api.Errno) {
	f := &far{}
	if !f.read(s) {
		return api.Station{}, api.ErrState
	}
	if f.armed != nil && f.armed.left == 1 {
		f.armed = nil
	} else if f.armed != nil {
		f.armed.left--
	}
	return f.shown(), api.OK
}

// from one number to another.
func from(least, most int) []int {
	var l []int
	for x := least; x <= most; x++ {
		l = append(l, x)
	}
	return l
}

// eachStation: all small ones of these switches, those that may not be too.
func eachStation(points []bool, yield func(api.Station)) {
	for _, last := range from(-2, 2) {
		for _, no := range from(-2, 3) {
			for _, point := range from(-1, 2) {
				for _, left := range from(-1, 3) {
					for _, patience := range from(0, 2) {
						for _, want := range []bool{false, true} {
							yield(api.Station{Points: points, Last: last, Armed: no, Point: point, Want: want, Left: left, Patience: patience})
						}
					}
				}
			}
		}
	}
}

// eachMsg: all small ones.
func eachMsg(yield func(api.Msg)) {
	for _, kind := range from(0, 6) {
		for _, no := range from(-1, 4) {
			for _, point := range from(-1, 2) {
				for _, want := range []bool{false, true} {
					yield(msg(kind, no, point, want))
				}
			}
		}
	}
}

// P15.1, P15.2, P15.3: all small stations and messages, against the tests' own way.
func TestSmallStations(t *testing.T) {
	may := 0
	for _, text := range []string{"", "0", "1", "10"} {
		eachStation(switches(text), func(s api.Station) {
			z, e := remote.Tick(s)
			if want, f := toldTick(s); !alike(z, want) || e != f {
				t.Fatalf("Tick(%v): %v, %d; %v, %d is wanted", s, z, e, want, f)
			}
			if e != api.OK {
				noStation(t, s)
				return
			}
			may++
			eachMsg(func(m api.Msg) {
				z, l, e := remote.Hear(s, m)
				if want, k, f := toldHear(s, m); !alike(z, want) || !slices.Equal(l, k) || e != f {
					t.Fatalf("Hear(%v, %v): %v, %v, %d; %v, %v, %d is wanted", s, m, z, l, e, want, k, f)
				}
			})
		})
	}
	// each Last has two patiences; armed: for each number above it, as many switches, wants and ticks (1, or 1 and 2) as there are
	idles, arms := 4*2, 4+3+2+1
	if want := 4*idles + arms*(1+1+2)*2*3; may != want {
		t.Errorf("%d stations may be; %d is wanted", may, want)
	}
}

// order: a command, in the tests' own way, and how often it was asked for in its phase.
type order struct {
	no, point int
	want      bool
	operates  bool
	asked     int
	waited    int
}

// near: a master in the tests' own way.
type near struct {
	next            int
	order           *order
	gave            bool
	patience, limit int
}

func (n *near) read(m api.Master) bool {
	*n = near{m.No, nil, m.Gave, m.Patience, m.Limit}
	if m.Patience < 1 || m.Patience > 1000 || m.Limit < 1 || m.Limit > 100 || m.No < 0 || m.No > 1000000001 {
		return false
	}
	if m.Phase == 0 {
		return fmt.Sprint(m.Now, m.Point, m.Want, m.Timer, m.Tries) == "0 0 false 0 0"
	}
	n.order = &order{m.Now, m.Point, m.Want, m.Phase == 3, m.Tries, m.Timer}
	tooLow, tooHigh := m.Point < 0 || m.Timer < 0 || m.Tries < 1, m.Point > 15 || m.Timer >= m.Patience || m.Tries > m.Limit
	return (m.Phase == 1 || m.Phase == 3) && m.No-m.Now == 1 && !tooLow && !tooHigh && !m.Gave
}

func (n *near) shown() api.Master {
	m := api.Master{No: n.next, Patience: n.patience, Limit: n.limit, Gave: n.gave}
	if o := n.order; o != nil {
		m.Phase, m.Now, m.Point, m.Want, m.Timer, m.Tries = 1, o.no, o.point, o.want, o.waited, o.asked
		if o.operates {
			m.Phase = 3
		}
	}
	return m
}

func (n *near) goes() []api.Msg {
	m := n.shown()
	return []api.Msg{{Kind: m.Phase, No: m.Now, Point: m.Point, Want: m.Want}}
}

func toldAsk(m api.Master, point int, want bool) (api.Master, []api.Msg, api.Errno) {
	n := &near{}
	switch {
	case !n.read(m):
		return api.Master{}, nil, api.ErrState
	case n.order != nil:
		return m, nil, api.ErrFull
	case point < 0 || point > 15:
		return m, nil, api.ErrRange
	case n.next == 1000000001:
		return m, nil, api.ErrEnd
	}
	n.order = &order{no: n.next, point: point, want: want, asked: 1}
	n.next++
	n.gave = false
	return n.shown(), n.goes(), api.OK
}

func toldHeard(m api.Master, a api.Msg) (api.Master, []api.Msg, api.Errno) {
	n := &near{}
	if !n.read(m) {
		return api.Master{}, nil, api.ErrState
	}
	if a.Kind != 2 && a.Kind != 4 && a.Kind != 5 {
		return m, nil, api.ErrKind
	}
	o := n.order
	if o == nil || o.no != a.No {
		return m, nil, api.OK
	}
	if a.Kind == 4 {
		n.order = nil
		return n.shown(), nil, api.OK
	}
	if a.Kind == 2 && o.operates {
		return m, nil, api.OK
	}
	if a.Kind == 5 && !o.operates {
		n.order, n.gave = nil, true
		return n.shown(), nil, api.OK
	}
	o.operates, o.asked, o.waited = !o.operates, 1, 0 // the other phase
	return n.shown(), n.goes(), api.OK
}

func toldWait(m api.Master) (api.Master, []api.Msg, api.Errno) {
	n := &near{}
	if !n.read(m) {
		return api.Master{}, nil, api.ErrState
	}
	if n.order == nil {
		return m, nil, api.OK
	}
	all := (n.order.asked-1)*n.patience + n.order.waited + 1 // ticks in this phase
	if all == n.limit*n.patience {
		n.order, n.gave = nil, true
		return n.shown(), nil, api.OK
	}
	n.order.asked, n.order.waited = all/n.patience+1, all%n.patience
	if n.order.waited > 0 {
		return n.shown(), nil, api.OK
	}
	return n.shown(), n.goes(), api.OK
}

// eachMaster: all small ones of this patience and limit, those that may not be too.
func eachMaster(patience, limit int, yield func(api.Master)) {
	for _, no := range []int{-1, 0, 1, 3, 1000000000, 1000000001, 1000000002} {
		for _, phase := range from(0, 4) {
			for _, now := range []int{-1, 0, 2, no - 1} {
				for _, point := range []int{-1, 0, 2, 16} {
					for _, timer := range from(-1, 2) {
						for _, tries := range from(0, 3) {
							for k := range 4 {
								yield(api.Master{No: no, Phase: phase, Now: now, Point: point, Want: k&1 > 0, Timer: timer, Patience: patience, Tries: tries, Limit: limit, Gave: k&2 > 0})
							}
						}
					}
				}
			}
		}
	}
}

// P15.4, P15.5, P15.6, P15.7: all small masters, answers and commands, against the tests' own way.
func TestSmallMasters(t *testing.T) {
	may := 0
	same := func(z, want api.Master, l, k []api.Msg, e, f api.Errno) bool {
		return z == want && slices.Equal(l, k) && e == f
	}
	for _, size := range [][2]int{{0, 1}, {1, 0}, {1, 1}, {2, 1}, {1, 2}, {2, 2}} {
		eachMaster(size[0], size[1], func(m api.Master) {
			z, l, e := remote.Wait(m)
			if want, k, f := toldWait(m); !same(z, want, l, k, e, f) {
				t.Fatalf("Wait(%+v): %+v, %v, %d; %+v, %v, %d is wanted", m, z, l, e, want, k, f)
			}
			if e != api.OK {
				noMaster(t, m)
				return
			}
			may++
			for _, point := range []int{-1, 0, 15, 16} {
				z, l, e := remote.Ask(m, point, point == 0)
				if want, k, f := toldAsk(m, point, point == 0); !same(z, want, l, k, e, f) {
					t.Fatalf("Ask(%+v, %d): %+v, %v, %d; %+v, %v, %d is wanted", m, point, z, l, e, want, k, f)
				}
			}
			eachMsg(func(a api.Msg) {
				for _, no := range []int{a.No, m.Now} {
					a.No = no
					z, l, e := remote.Heard(m, a)
					if want, k, f := toldHeard(m, a); !same(z, want, l, k, e, f) {
						t.Fatalf("Heard(%+v, %v): %+v, %v, %d; %+v, %v, %d is wanted", m, a, z, l, e, want, k, f)
					}
				}
			})
		})
	}
	// with a command: phases, switches and wants, for each Now that is No less 1 (three are tried twice), times patience and limit; without: Gave, for each Now that is 0
	if want := 2*2*2*(2+2+2+1+1)*(1+2+2+4) + 4*2*(1+2+1+1+1); may != want {
		t.Errorf("%d masters may be; %d is wanted", may, want)
	}
}
