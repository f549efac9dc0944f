package meter_test

import (
	"math"
	"math/rand/v2"
	"slices"
	"sync"
	"testing"

	"gridworks/api"
	"gridworks/meter"
)

// P14.1: the chapter's example, and telegrams whose sums another program worked out (they are those of CRC-16/CCITT-FALSE).
func TestTelegrams(t *testing.T) {
	for _, c := range []struct {
		id, value int
		want      string
	}{
		{1, 2, "\x00\x01\x00\x00\x00\x02\x84\x03"},
		{0, 0, "\x00\x00\x00\x00\x00\x00\x0e\x10"},
		{0xFFFF, 0xFFFFFFFF, "\xff\xff\xff\xff\xff\xff\x99\xcf"},
		{0x0102, 0x03040506, "\x01\x02\x03\x04\x05\x06\xd7\x1c"},
	} {
		if b := pack(t, c.id, c.value); string(b) != c.want {
			t.Errorf("Pack(%d, %d): % x; % x is wanted", c.id, c.value, b, c.want)
		}
		wantUnpack(t, []byte(c.want), c.id, c.value)
	}
}

// P14.1: each byte of id and value has its place, the highest one first.
func TestPlaces(t *testing.T) {
	for k := range 6 {
		b := make([]byte, 6)
		b[k] = 0xA7
		id, value := int(b[0])<<8+int(b[1]), int(b[2])<<24+int(b[3])<<16+int(b[4])<<8+int(b[5])
		if got := pack(t, id, value); !slices.Equal(got[:6], b) {
			t.Errorf("Pack(%d, %d): % x; % x is wanted ahead of the sum", id, value, got, b)
		}
	}
}

// P14.1: each id, with drawn values: the sum is as a long division tells it, and what was packed is unpacked.
func TestDrawnTelegrams(t *testing.T) {
	d := rand.New(rand.NewPCG(14, 1))
	for id := range api.MaxID + 1 {
		value := int(d.Uint32())
		b := pack(t, id, value)
		if got, want := int(b[6])<<8+int(b[7]), bitwise(b[:6]); got != want {
			t.Fatalf("Pack(%d, %d): the sum is %x; %x is wanted", id, value, got, want)
		}
		wantUnpack(t, b, id, value)
	}
}

// P14.1: ids and values that just may be.
func TestJustPacked(t *testing.T) {
	for _, id := range []int{0, api.MaxID} {
		for _, value := range []int{0, api.MaxValue} {
			wantUnpack(t, pack(t, id, value), id, value)
		}
	}
}

// P14.1: ids and values that may not be.
func TestNotPacked(t *testing.T) {
	for _, x := range []int{-1, api.MaxValue + 1, math.MinInt, math.MaxInt, 1 << 32, 1 << 48} {
		noPack(t, x, 5)
		noPack(t, 5, x)
		noPack(t, x, x)
	}
	noPack(t, api.MaxID+1, 0)
	noPack(t, 1<<16+5, 7)
	wantUnpack(t, pack(t, 5, api.MaxID+1), 5, api.MaxID+1)
}

// P14.1: not eight bytes, whatever they are; that is told ahead of a wrong sum.
func TestNotEight(t *testing.T) {
	b := append(pack(t, 1, 2), pack(t, 3, 4)...)
	for n := range len(b) + 1 {
		if n != 8 {
			noUnpack(t, b[:n], api.ErrSize)
			noUnpack(t, make([]byte, n), api.ErrSize)
		}
	}
	noUnpack(t, nil, api.ErrSize)
	noUnpack(t, make([]byte, 100000), api.ErrSize)
	noUnpack(t, make([]byte, 8), api.ErrSum)
}

// P14.1: of all sums a telegram has one alone.
func TestOtherSums(t *testing.T) {
	b := pack(t, 40000, 3000000000)
	right := int(b[6])<<8 + int(b[7])
	for s := range 1 << 16 {
		b[6], b[7] = byte(s>>8), byte(s)
		if s == right {
			wantUnpack(t, b, 40000, 3000000000)
		} else {
			noUnpack(t, b, api.ErrSum)
		}
	}
}

// P14.1: no telegram with one byte changed is taken for another one.
func TestOneByteChanged(t *testing.T) {
	d := rand.New(rand.NewPCG(14, 2))
	for range 100 {
		b := pack(t, d.IntN(api.MaxID+1), int(d.Uint32()))
		for i := range b {
			for x := 1; x < 256; x++ {
				b[i] ^= byte(x)
				noUnpack(t, b, api.ErrSum)
				b[i] ^= byte(x)
			}
		}
	}
}

// P14.1: drawn bytes are taken just if their sum is right.
func TestDrawnBytes(t *testing.T) {
	d := rand.New(rand.NewPCG(14, 3))
	b := make([]byte, 8)
	for range 20000 {
		for i := range b {
			b[i] = byte(d.Uint32())
		}
		_, _, e := meter.Unpack(b)
		if right := bitwise(b[:6]) == int(b[6])<<8+int(b[7]); right != (e == api.OK) {
			t.Fatalf("Unpack(% x): %d", b, e)
		}
		s := bitwise(b[:6])
		b[6], b[7] = byte(s>>8), byte(s)
		wantUnpack(t, b, int(b[0])<<8+int(b[1]), int(b[2])<<24+int(b[3])<<16+int(b[4])<<8+int(b[5]))
	}
}

// P14.1: what is answered is new memory, and what is handed in stays as it is, its spare room too.
func TestTelegramMemory(t *testing.T) {
	a := pack(t, 1, 2)
	fill(a, 0xEE)
	b := pack(t, 1, 2)
	fill(a, 0xDD)
	wantUnpack(t, b, 1, 2)
	l, kept := roomy(byte(7), b...)
	wantUnpack(t, l, 1, 2)
	wantKept(t, l, kept)
	l[0]++
	kept[0]++
	noUnpack(t, l, api.ErrSum)
	wantKept(t, l, kept)
}

// P14.1: what is told does not hang on who else asks at the same time.
func TestTelegramsAtOnce(t *testing.T) {
	var all sync.WaitGroup
	for id := range 20 {
		all.Go(func() {
			for value := range 200 {
				if b, e := meter.Pack(id, value); e != api.OK || int(b[6])<<8+int(b[7]) != bitwise(b[:6]) {
					t.Errorf("Pack(%d, %d): % x, %d", id, value, b, e)
				}
			}
		})
	}
	all.Wait()
}
