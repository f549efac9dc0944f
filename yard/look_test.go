package yard_test

import (
	"math/rand/v2"
	"testing"

	"gridworks/api"
	"gridworks/yard"
)

// text of bools, as bits takes it.
func text(l []bool) string {
	s := make([]byte, len(l))
	for i := range l {
		s[i] = '0'
		if l[i] {
			s[i] = '1'
		}
	}
	return string(s)
}

// P10.2: closed Breakers and Blades join points; open ones and Earths don't.
func TestLook(t *testing.T) {
	wantLook(t, laid("3 0 2 d01 b12"), "100", "000")
	wantLook(t, laid("3 0 2 D01 b12"), "110", "000")
	wantLook(t, laid("3 0 2 d01 B12"), "100", "000")
	wantLook(t, laid("3 0 2 D01 B12"), "111", "000")
	wantLook(t, laid("3 0 2 B10 D21"), "111", "000") // whichever end is told first
	wantLook(t, laid("3 2 0 B10 D21"), "111", "000")
	wantLook(t, laid("4 0 - e0 e1 E2 B23"), "1000", "0011")
	wantLook(t, laid("4 - - E0 E3"), "0000", "1001")
	wantLook(t, laid("4 - - E0 B01 B12"), "0000", "1110")
}

// P10.2: points that draw are not live by that; what is live may draw.
func TestLookDrawn(t *testing.T) {
	wantLook(t, laid("3 - 012 B01 D12"), "000", "000")
	wantLook(t, laid("3 1 012"), "010", "000")
	wantLook(t, laid("3 01 1 B12"), "111", "000")
}

// P10.2: a yard that is not sound is looked at, too.
func TestLookUnsound(t *testing.T) {
	wantLook(t, laid("1 0 - E0"), "1", "1")
	wantLook(t, laid("3 0 - E2 B01 B12"), "111", "111")
	wantLook(t, laid("4 03 - E1 B01 D12"), "1111", "1110")
}

// P10.2: a yard may have little, and much.
func TestLookEdges(t *testing.T) {
	wantLook(t, laid("1 - -"), "0", "0")
	wantLook(t, laid("1 0 0"), "1", "0")
	wantLook(t, laid("1 - - E0 E0"), "0", "1")
	wantLook(t, api.Yard{Points: 1, Fed: []int{}, Drawn: []int{}, Devices: []api.Device{}}, "0", "0")
	wantLook(t, laid("X 0123456789 0123456789"), "1111111111", "0000000000")
	wantLook(t, laid("X 9 0 D98 B87 D76 B65 D54 B43 D32 B21 D10 E0"), "1111111111", "1111111111")
	wantLook(t, laid("X 9 0 D98 B87 D76 B65 D54 b43 D32 B21 D10 E0"), "0000111111", "1111000000")
	wantLook(t, laid("X 4 0 B01 B23 B45 B67 B89 B12 D34 D56 B78 B90"), "1111111111", "0000000000")
}

// P10.2: drawn yards, point by point.
func TestDrawnLook(t *testing.T) {
	d := rand.New(rand.NewPCG(10, 2))
	for range 2000 {
		y := drawnYard(d, 1+d.IntN(api.MaxPoints), d.IntN(api.MaxDevices+1), 1+d.IntN(3))
		live, earthed := make([]bool, y.Points), make([]bool, y.Points)
		for p := range y.Points {
			live[p], earthed[p] = isLive(y, p), isEarthed(y, p)
		}
		wantLook(t, y, text(live), text(earthed))
	}
}

// P10.2: what is answered is new memory, and what is handed in stays as it is, its spare room too.
func TestLookOwnMemory(t *testing.T) {
	y, kept := roomy()
	for range 2 {
		live, earthed, _ := yard.Look(y)
		flood(live)
		if text(earthed) != "00011" {
			t.Error("lists share memory:", earthed)
		}
		flood(earthed)
		wantLook(t, y, "11000", "00011")
		wantKept(t, y, kept)
	}
}

// flood: turn all that is in a list, its spare room too.
func flood(l []bool) {
	l = l[:cap(l)]
	for i := range l {
		l[i] = !l[i]
	}
}
