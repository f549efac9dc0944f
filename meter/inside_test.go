package meter

import (
	"slices"
	"testing"

	"gridworks/api"
)

// P14.1: what four bits do to a sum stands in the array from the start on: as a long division of these four tells it, bit by bit.
func TestByFour(t *testing.T) {
	for n, got := range byFour {
		s := n << 12
		for range 4 {
			s <<= 1
			if s >= 1<<16 {
				s ^= 1<<16 | 1<<12 | 1<<5 | 1
			}
		}
		if int(got) != s {
			t.Errorf("byFour[%d]: %x; %x is wanted", n, got, s)
		}
	}
}

// P14.1: what is answered is worked out by a function: it is the same whatever the array holds.
func TestByFunction(t *testing.T) {
	defer func(was [16]uint16) { byFour = was }(byFour)
	want := []byte{0, 1, 0, 0, 0, 2, 0x84, 3}
	for _, x := range []uint16{0, 0x1021, 0xFFFF} {
		for n := range byFour {
			byFour[n] = x
		}
		if b, e := Pack(1, 2); !slices.Equal(b, want) || e != api.OK {
			t.Errorf("Pack(1, 2) with %x: % x, %d; % x is wanted", x, b, e, want)
		}
		if id, value, e := Unpack(want); id != 1 || value != 2 || e != api.OK {
			t.Errorf("Unpack(% x) with %x: %d, %d, %d", want, x, id, value, e)
		}
	}
}
