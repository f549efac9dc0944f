package meter_test

import (
	"math/big"
	"slices"
	"testing"

	"gridworks/api"
	"gridworks/meter"
)

func pack(t *testing.T, id, value int) []byte {
	t.Helper()
	b, e := meter.Pack(id, value)
	if len(b) != 8 || e != api.OK {
		t.Fatalf("Pack(%d, %d): % x, %d", id, value, b, e)
	}
	return b
}

// wantUnpack: whether a telegram tells this.
func wantUnpack(t *testing.T, b []byte, id, value int) {
	t.Helper()
	if i, v, e := meter.Unpack(b); i != id || v != value || e != api.OK {
		t.Errorf("Unpack(% x): %d, %d, %d; %d, %d is wanted", b, i, v, e, id, value)
	}
}

// noUnpack: whether Unpack refuses like this, with nothing beside it.
func noUnpack(t *testing.T, b []byte, want api.Errno) {
	t.Helper()
	if i, v, e := meter.Unpack(b); i != 0 || v != 0 || e != want {
		t.Errorf("Unpack(% x): %d, %d, %d; %d is wanted", b, i, v, e, want)
	}
}

func noPack(t *testing.T, id, value int) {
	t.Helper()
	if b, e := meter.Pack(id, value); len(b) > 0 || e != api.ErrRange {
		t.Errorf("Pack(%d, %d): % x, %d; %d is wanted", id, value, b, e, api.ErrRange)
	}
}

// bitwise: the tests' own sum: a long division, bit by bit, by x^16 + x^12 + x^5 + 1.
func bitwise(b []byte) int {
	s := 0xFFFF
	for _, x := range b {
		for k := 7; k >= 0; k-- {
			out := s>>15&1 ^ int(x)>>k&1
			s = s << 1 & 0xFFFF
			if out == 1 {
				s ^= 1<<12 | 1<<5 | 1
			}
		}
	}
	return s
}

func wantFill(t *testing.T, times, values, ask, want []int) {
	t.Helper()
	if l, e := meter.Fill(times, values, ask); !slices.Equal(l, want) || e != api.OK {
		t.Errorf("Fill(%v, %v, %v): %v, %d; %v is wanted", times, values, ask, l, e, want)
	}
}

func noFill(t *testing.T, times, values, ask []int, want api.Errno) {
	t.Helper()
	if l, e := meter.Fill(times, values, ask); len(l) > 0 || e != want {
		t.Errorf("Fill(%v, %v, %v): %v, %d; %d is wanted", times, values, ask, l, e, want)
	}
}

// shown: the tests' own Fill, of one time, by numbers of any size.
func shown(times, values []int, at int) int {
	n := len(times)
	for i := range n {
		if times[i] == at {
			return values[i]
		}
	}
	switch {
	case at < times[0] || n == 1:
		return values[0]
	case at > times[n-1]:
		return min(on(times[n-2], values[n-2], times[n-1], values[n-1], at), api.MaxValue)
	}
	i := 1
	for times[i] < at {
		i++
	}
	return on(times[i-1], values[i-1], times[i], values[i], at)
}

// on the line through two points, rounded down.
func on(t0, v0, t1, v1, at int) int {
	x := big.NewRat(int64(at-t0), int64(t1-t0))
	x.Mul(x, big.NewRat(int64(v1-v0), 1))
	x.Add(x, big.NewRat(int64(v0), 1))
	return int(new(big.Int).Div(x.Num(), x.Denom()).Int64())
}

// band up to so much, at so many tenths.
func band(to, tenths int) api.Band { return api.Band{To: to, Tenths: tenths} }

func wantBill(t *testing.T, use int, l []api.Band, want int) {
	t.Helper()
	if c, e := meter.Bill(use, l); c != want || e != api.OK {
		t.Errorf("Bill(%d, %v): %d, %d; %d is wanted", use, l, c, e, want)
	}
}

func noBill(t *testing.T, use int, l []api.Band, want api.Errno) {
	t.Helper()
	if c, e := meter.Bill(use, l); c != 0 || e != want {
		t.Errorf("Bill(%d, %v): %d, %d; %d is wanted", use, l, c, e, want)
	}
}

// billed: the tests' own Bill: each one that is used looks for its band.
func billed(use int, l []api.Band) int {
	tenths := 0
	for k := 1; k <= use; k++ {
		i := 0
		for i < len(l)-1 && k > l[i].To {
			i++
		}
		tenths += l[i].Tenths
	}
	c := tenths / 10
	if tenths%10 > 0 {
		c++
	}
	return c
}

func wantSettle(t *testing.T, total int, uses, want []int) {
	t.Helper()
	if l, e := meter.Settle(total, uses); !slices.Equal(l, want) || e != api.OK {
		t.Errorf("Settle(%d, %v): %v, %d; %v is wanted", total, uses, l, e, want)
	}
}

func noSettle(t *testing.T, total int, uses []int, want api.Errno) {
	t.Helper()
	if l, e := meter.Settle(total, uses); len(l) > 0 || e != want {
		t.Errorf("Settle(%d, %v): %v, %d; %d is wanted", total, uses, l, e, want)
	}
}

// settled: the tests' own Settle: what is left goes, one by one, to the first of those that lack most.
func settled(total int, uses []int) []int {
	all := new(big.Int)
	for _, x := range uses {
		all.Add(all, big.NewInt(int64(x)))
	}
	shares, lost, left := make([]int, len(uses)), make([]*big.Int, len(uses)), total
	for i, x := range uses {
		just := new(big.Int).Mul(big.NewInt(int64(total)), big.NewInt(int64(x)))
		down := new(big.Int)
		down.DivMod(just, all, just)
		shares[i], lost[i] = int(down.Int64()), just
		left -= shares[i]
	}
	for range left {
		at := 0
		for i := range lost {
			if lost[i].Cmp(lost[at]) > 0 {
				at = i
			}
		}
		shares[at]++
		lost[at] = big.NewInt(-1)
	}
	return shares
}

func sum(l []int) int {
	s := 0
	for _, x := range l {
		s += x
	}
	return s
}

// roomy: a list with spare room, and a copy of it with that.
func roomy[T any](spare T, l ...T) (list, kept []T) {
	list = append(append(make([]T, 0, len(l)+5), l...), spare, spare)[:len(l)]
	return list, slices.Clone(list[:cap(list)])
}

func wantKept[T comparable](t *testing.T, l, kept []T) {
	t.Helper()
	if !slices.Equal(l[:cap(l)], kept) {
		t.Errorf("changed: %v; %v is wanted", l[:cap(l)], kept)
	}
}

// fill a list with what it hasn't, its spare room too.
func fill[T any](l []T, x T) {
	l = l[:cap(l)]
	for i := range l {
		l[i] = x
	}
}
