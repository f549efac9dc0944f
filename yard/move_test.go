package yard_test

import (
	"math/rand/v2"
	"slices"
	"sync"
	"testing"

	"gridworks/api"
	"gridworks/yard"
)

// both: whether the device 0 may be moved, be it open or closed.
func both(t *testing.T, s string) {
	t.Helper()
	wantMove(t, laid(s), 0)
	wantMove(t, flip(laid(s), 0), 0)
}

// neither: whether it is refused either way.
func neither(t *testing.T, s string, want api.Errno) {
	t.Helper()
	noMove(t, laid(s), 0, want)
	noMove(t, flip(laid(s), 0), 0, want)
}

// P10.3: the chapter's example, move by move.
func TestMove(t *testing.T) {
	y := laid("3 0 2 b12 d01")
	wantMove(t, y, 0)
	wantMove(t, y, 1)
	noMove(t, flip(y, 0), 1, api.ErrLoad)
	wantMove(t, flip(y, 1), 0)
	closed := flip(flip(y, 0), 1)
	wantMove(t, closed, 0)
	noMove(t, closed, 1, api.ErrLoad)
}

// P10.3: a Blade neither joins nor parts what is live and what draws, or what is live twice.
func TestBladeLoad(t *testing.T) {
	neither(t, "2 0 1 d01", api.ErrLoad)
	neither(t, "2 0 1 d10", api.ErrLoad)
	neither(t, "2 1 0 d01", api.ErrLoad)
	neither(t, "2 01 - d01", api.ErrLoad)
	neither(t, "2 01 01 d01", api.ErrLoad)
	neither(t, "2 0 01 d01", api.ErrLoad)
	neither(t, "4 0 3 d12 B01 D23", api.ErrLoad)
	neither(t, "4 3 0 d12 B01 D23", api.ErrLoad)
	neither(t, "4 03 - d12 B01 D23", api.ErrLoad)
}

// P10.3: a Blade may be moved where nothing flows over it.
func TestBladeIdle(t *testing.T) {
	both(t, "2 - - d01")
	both(t, "2 0 - d01")
	both(t, "2 1 - d01")
	both(t, "2 - 0 d01")
	both(t, "2 - 01 d01")
	both(t, "2 0 0 d01") // what is live and draws is on one side
	both(t, "2 1 1 d10")
	both(t, "4 0 3 d12 B01 d23")
	both(t, "4 0 3 d12 b01 D23")
	both(t, "4 0 01 d12 B01 b23")
	both(t, "4 03 12 d12 b01 d23") // what is fed is elsewhere
}

// P10.3: a Blade may be moved where its points are together without it.
func TestBladeBeside(t *testing.T) {
	for _, beside := range []string{"D01", "B01", "D10", "B02 D21", "D23 D31 B20"} {
		both(t, "4 0 1 d01 "+beside)
		both(t, "4 1 0 d01 "+beside)
		both(t, "4 01 01 d01 "+beside)
		both(t, "4 - 01 d01 E0 "+beside)
	}
	neither(t, "4 0 1 d01 d01", api.ErrLoad)
	neither(t, "4 0 1 d01 b02 D21", api.ErrLoad)
	neither(t, "4 0 1 d01 D02 D31", api.ErrLoad)
}

// P10.3: a Breaker parts and joins whatever flows.
func TestBreaker(t *testing.T) {
	for _, s := range []string{"2 - - b01", "2 0 1 b01", "2 1 0 b01", "2 01 - b01", "2 01 01 b10", "2 - 01 b01", "4 0 3 b12 B01 D23", "2 0 1 b01 D01", "2 - 1 b01 E0", "2 - - b01 E0 E1"} {
		both(t, s)
	}
}

// P10.3: nothing that closes makes live what is earthed, nor earths what is live; a Blade's load is asked first.
func TestEarthed(t *testing.T) {
	for _, s := range []string{"2 0 - b01 E1", "2 1 - b01 E0", "2 0 1 b01 E1", "4 0 - b12 D01 B23 E3", "4 3 - b12 D01 B23 E0", "2 0 - d01 E1", "2 1 - d01 E0", "4 0 - d12 D01 B23 E3", "2 0 0 d01 E1"} {
		noMove(t, laid(s), 0, api.ErrEarth)
		noMove(t, flip(laid(s), 0), 0, api.ErrState)
	}
	noMove(t, laid("2 0 1 d01 E1"), 0, api.ErrLoad)
	noMove(t, laid("4 0 3 d12 B01 D23 E2"), 0, api.ErrLoad)
	both(t, "2 0 - b01 e1")
	both(t, "2 0 - d01 e1")
	both(t, "4 0 - b12 D01 b23 E3")
	both(t, "4 - 0 d12 D01 B23 E3")
	both(t, "4 0 - b12 E1 E2")
}

// P10.3: an Earth is closed where nothing is live, and opened wherever it stands.
func TestEarth(t *testing.T) {
	for _, s := range []string{"1 0 - e0", "3 2 - e2", "3 0 2 e2 B01 B12", "3 0 - e1 D01", "2 01 01 e1"} {
		noMove(t, laid(s), 0, api.ErrLive)
		noMove(t, flip(laid(s), 0), 0, api.ErrState)
	}
	for _, s := range []string{"1 - - e0", "1 - 0 e0", "3 0 2 e2 B01 b12", "3 0 - e1 d01", "3 - - e1 E1", "3 - 0 e2 B01 B12 E0", "2 0 - e1"} {
		both(t, s)
	}
}

// P10.3: a yard at the edges of what may be.
func TestMoveGreatest(t *testing.T) {
	y := laid("X 9 0 D98 B87 D76 B65 D54 b43 D32 B21 D10 e0")
	wantMoves(t, y, []api.Errno{0, 0, 0, 0, 0, 0, 0, 0, 0, 0})
	const load, live, earth = api.ErrLoad, api.ErrLive, api.ErrEarth
	wantMoves(t, flip(y, 5), []api.Errno{load, 0, load, 0, load, 0, load, 0, load, live})
	wantMoves(t, flip(y, 9), []api.Errno{0, 0, 0, 0, 0, earth, 0, 0, 0, 0})
}

// wantMoves: of each device, whether it is moved, or what is wrong.
func wantMoves(t *testing.T, y api.Yard, want []api.Errno) {
	t.Helper()
	for k, e := range want {
		if e == api.OK {
			wantMove(t, y, k)
		} else {
			noMove(t, y, k, e)
		}
	}
}

// P10.3: drawn yards, device by device; whatever is wrong comes up often.
func TestDrawnMoves(t *testing.T) {
	d := rand.New(rand.NewPCG(10, 3))
	count := map[api.Errno]int{}
	for i := range 6000 {
		draw := drawnYard
		if i%2 == 0 {
			draw = drawnSound
		}
		y := draw(d, 1+d.IntN(api.MaxPoints), d.IntN(api.MaxDevices+1), 1+d.IntN(4))
		sound := isSound(y)
		want := make([]api.Errno, len(y.Devices))
		for k := range want {
			want[k] = api.ErrState
			if sound {
				want[k] = judged(y, k)
			}
			count[want[k]]++
		}
		wantMoves(t, y, want)
	}
	for _, e := range []api.Errno{api.OK, api.ErrState, api.ErrLoad, api.ErrEarth, api.ErrLive} {
		if count[e] < 150 {
			t.Error("too few:", e, count[e])
		}
	}
}

// P10.3: whatever is moved, what is live is never earthed, and no Blade makes or takes away what is live where something draws; and what was moved may be moved back.
func TestWhateverIsMoved(t *testing.T) {
	d := rand.New(rand.NewPCG(10, 4))
	blades := 0
	for range 300 {
		y := drawnSound(d, 2+d.IntN(api.MaxPoints-1), 1+d.IntN(api.MaxDevices), 3)
		for range 30 {
			k := d.IntN(len(y.Devices))
			z, e := yard.Move(y, k)
			if e != api.OK {
				continue
			}
			if !isSound(z) {
				t.Fatal("not sound:", y, k, z)
			}
			if y.Devices[k].Kind == api.Blade {
				blades++
				for _, p := range y.Drawn {
					if isLive(y, p) != isLive(z, p) {
						t.Fatal("a Blade switched a load:", y, k)
					}
				}
			}
			wantMove(t, z, k)
			y = z
		}
	}
	if blades < 500 {
		t.Error("too few Blades were moved:", blades)
	}
}

// P10.3: what is told hangs on nothing else, nor on who else asks at the same time.
func TestMoveAtOnce(t *testing.T) {
	y := laid("3 0 2 b12 d01 e1")
	var all sync.WaitGroup
	told := make([]api.Yard, 20)
	for i := range told {
		all.Go(func() { told[i], _ = yard.Move(y, i%2) })
	}
	all.Wait()
	for i := range told {
		if !same(told[i], flip(y, i%2)) {
			t.Error(i, told[i])
		}
	}
}

// roomy: a yard whose lists have spare room, and a copy of these with it.
func roomy() (api.Yard, api.Yard) {
	room := func(l []int) []int { return append(append(make([]int, 0, 9), l...), 7, 7, 7)[:len(l)] }
	y := laid("5 0 14 D01 b12 B34 E3")
	y.Fed, y.Drawn = room(y.Fed), room(y.Drawn)
	y.Devices = append(append(make([]api.Device, 0, 9), y.Devices...), api.Device{Kind: 7}, api.Device{Kind: 8})[:len(y.Devices)]
	return y, apart(whole(y))
}

// whole: a yard whose lists show their spare room.
func whole(y api.Yard) api.Yard {
	y.Fed, y.Drawn, y.Devices = y.Fed[:cap(y.Fed)], y.Drawn[:cap(y.Drawn)], y.Devices[:cap(y.Devices)]
	return y
}

func wantKept(t *testing.T, y, kept api.Yard) {
	t.Helper()
	if w := whole(y); !same(w, kept) {
		t.Errorf("changed: %v; %v is wanted", w, kept)
	}
}

// spoil all numbers of a list, of its spare room too.
func spoil(l []int) {
	l = l[:cap(l)]
	for i := range l {
		l[i] = -9
	}
}

// P10.3: what is answered is new memory, and what is handed in stays as it is, its spare room too.
func TestMoveOwnMemory(t *testing.T) {
	y, kept := roomy()
	want := flip(y, 1)
	for range 2 {
		z, e := yard.Move(y, 1)
		if !same(z, want) || e != api.OK {
			t.Fatal(z, e)
		}
		spoil(z.Fed)
		if !slices.Equal(z.Drawn, want.Drawn) {
			t.Error("lists share memory:", z)
		}
		spoil(z.Drawn)
		clear(z.Devices[:cap(z.Devices)])
		wantKept(t, y, kept)
	}
}
