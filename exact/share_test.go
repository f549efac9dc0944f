package exact_test

import (
	"math"
	"math/big"
	"slices"
	"strings"
	"testing"

	"gridworks/api"
	"gridworks/exact"
)

// P1.3: ordinary totals and weights.
func TestShares(t *testing.T) {
	for _, c := range []struct {
		total   int
		weights []string
		want    []int
	}{
		{100, []string{"1", "1", "1"}, []int{34, 33, 33}},
		{-100, []string{"1", "1", "1"}, []int{-33, -33, -34}},
		{101, []string{"1", "1", "1"}, []int{34, 34, 33}},
		{99, []string{"1", "1", "1"}, []int{33, 33, 33}},
		{0, []string{"1", "2"}, []int{0, 0}},
		{7, []string{"5"}, []int{7}},
		{-7, []string{"1/5"}, []int{-7}},
		{10, []string{"1", "2", "3"}, []int{2, 3, 5}},     // 1 2/3, 3 1/3, 5
		{-10, []string{"1", "2", "3"}, []int{-2, -3, -5}}, // -1 2/3 was -2: 1/3 rounded away; -3 1/3 was -4: 2/3
		{10, []string{"3", "2", "1"}, []int{5, 3, 2}},     // not the first one, but the one that lost most
		{1, []string{"1/2", "1/3", "1/6"}, []int{1, 0, 0}},
		{1, []string{"1/6", "1/3", "1/2"}, []int{0, 0, 1}},
		{2, []string{"1/6", "1/3", "1/2"}, []int{0, 1, 1}},           // 1/3, 2/3, 1
		{5, []string{"0", "1", "0", "1", "0"}, []int{0, 3, 0, 2, 0}}, // who has no weight has no share
		{1, []string{"0", "1"}, []int{0, 1}},
		{-1, []string{"0", "1"}, []int{0, -1}},
		{-5, []string{"1", "1"}, []int{-2, -3}},
		{3, []string{"1", "1", "1", "1", "1"}, []int{1, 1, 1, 0, 0}},
		{-3, []string{"1", "1", "1", "1", "1"}, []int{0, 0, -1, -1, -1}},
		{10, []string{"1/3", "1/7"}, []int{7, 3}},
		{4, []string{"2", "1", "2", "1"}, []int{1, 1, 1, 1}}, // 1 1/3, 2/3, 1 1/3, 2/3: two are left, for those that lost 2/3
	} {
		l, e := exact.Share(c.total, c.weights)
		if !slices.Equal(l, c.want) || e != api.OK {
			t.Errorf("Share(%d, %q): %v, %d; %v is wanted", c.total, c.weights, l, e, c.want)
		}
	}
}

// P1.3: totals, lists and weights as great as may be.
func TestSharesAtTheEdge(t *testing.T) {
	for _, total := range []int{api.MaxTotal, -api.MaxTotal} {
		if l, e := exact.Share(total, []string{"7"}); !slices.Equal(l, []int{total}) || e != api.OK {
			t.Error(total, l, e)
		}
		if l, e := exact.Share(total, []string{"0", strings.Repeat("9", api.MaxDigits), "0"}); !slices.Equal(l, []int{0, total, 0}) || e != api.OK {
			t.Error(total, l, e)
		}
	}
	if l, e := exact.Share(api.MaxTotal, []string{"1", "1", "1"}); !slices.Equal(l, []int{333333333333334, 333333333333333, 333333333333333}) || e != api.OK {
		t.Error(l, e)
	}
	ones := slices.Repeat([]string{"1"}, api.MaxParts)
	want := slices.Repeat([]int{1}, api.MaxParts)
	want[0], want[1] = 2, 2
	if l, e := exact.Share(api.MaxParts+2, ones); !slices.Equal(l, want) || e != api.OK {
		t.Error(l, e)
	}
	// A weight that is the greatest by the least part there can be.
	huge := strings.Repeat("9", api.MaxDigits)
	less := huge[1:] + "8"
	if l, e := exact.Share(1, []string{less, huge}); !slices.Equal(l, []int{0, 1}) || e != api.OK {
		t.Error(l, e)
	}
}

// P1.3: errors, and which of several goes ahead.
func TestShareRefuses(t *testing.T) {
	wide := strings.Repeat("1", api.MaxDigits+1)
	many := slices.Repeat([]string{"1"}, api.MaxParts+1)
	for _, c := range []struct {
		total   int
		weights []string
		want    api.Errno
	}{
		{1, many, api.ErrSize},
		{1, slices.Repeat([]string{"x"}, api.MaxParts+1), api.ErrSize},
		{1, slices.Repeat([]string{"0"}, api.MaxParts+1), api.ErrSize},
		{api.MaxTotal + 1, many, api.ErrSize},
		{1, []string{wide}, api.ErrSize},
		{1, []string{"x", "-1", wide}, api.ErrSize},
		{1, []string{wide, "x"}, api.ErrSize},
		{api.MaxTotal + 1, []string{"0", wide}, api.ErrSize},
		{1, []string{strings.Repeat("é", api.MaxDigits/2+1)}, api.ErrSize},
		{1, []string{strings.Repeat("é", api.MaxDigits/2)}, api.ErrForm},
		{1, []string{""}, api.ErrForm},
		{1, []string{"1", "1.5"}, api.ErrForm},
		{1, []string{"2/4", "1"}, api.ErrForm},
		{1, []string{"1/0"}, api.ErrForm},
		{1, []string{"-0", "1"}, api.ErrForm},
		{1, []string{"-1", "01"}, api.ErrForm},
		{api.MaxTotal + 1, []string{"x"}, api.ErrForm},
		{api.MaxTotal + 1, []string{"1"}, api.ErrRange},
		{-api.MaxTotal - 1, []string{"1"}, api.ErrRange},
		{math.MaxInt, []string{"1", "1"}, api.ErrRange},
		{math.MinInt, []string{"1", "1"}, api.ErrRange},
		{1, []string{"-1"}, api.ErrRange},
		{1, []string{"5", "-1/2"}, api.ErrRange},
		{0, []string{"-1", "5"}, api.ErrRange},
		{1, []string{"1", "-1"}, api.ErrRange},
		{api.MaxTotal + 1, []string{"0"}, api.ErrRange},
		{api.MaxTotal + 1, nil, api.ErrRange},
		{1, nil, api.ErrZero},
		{0, []string{}, api.ErrZero},
		{1, []string{"0"}, api.ErrZero},
		{0, []string{"0", "0"}, api.ErrZero},
		{api.MaxTotal, slices.Repeat([]string{"0"}, api.MaxParts), api.ErrZero},
	} {
		if l, e := exact.Share(c.total, c.weights); len(l) != 0 || e != c.want {
			t.Errorf("Share(%d, %.60q): %v, %d; error %d is wanted", c.total, c.weights, l, e, c.want)
		}
	}
}

// justShares: what P1.3 asks, worked out in another way: one after the other gets one of what is left.
func justShares(t *testing.T, total int, weights []string) []int {
	t.Helper()
	all := new(big.Rat)
	for _, w := range weights {
		all.Add(all, rat(t, w))
	}
	shares := make([]int, len(weights))
	lost := make([]*big.Rat, len(weights))
	left := total
	for i, w := range weights {
		just := new(big.Rat).Mul(big.NewRat(int64(total), 1), rat(t, w))
		just.Quo(just, all)
		down := new(big.Int).Quo(just.Num(), just.Denom())
		lost[i] = new(big.Rat).Sub(just, new(big.Rat).SetInt(down))
		if lost[i].Sign() < 0 {
			down.Sub(down, big.NewInt(1))
			lost[i].Add(lost[i], big.NewRat(1, 1))
		}
		shares[i] = int(down.Int64())
		left -= shares[i]
	}
	for ; left > 0; left-- {
		most := 0
		for i := range lost {
			if lost[i].Cmp(lost[most]) > 0 {
				most = i
			}
		}
		shares[most]++
		lost[most] = big.NewRat(-1, 1)
	}
	return shares
}

// P1.3: many totals and weights, and what comes of it.
func TestManyShares(t *testing.T) {
	d := draw(3)
	for i := range 1500 {
		n := 1 + d.below(8)
		if i%50 == 0 {
			n = api.MaxParts
		}
		weights := make([]string, n)
		for j := range weights {
			weights[j] = strings.TrimPrefix(d.number([]int{1, 2, 25}[i%3]), "-")
		}
		weights[d.below(n)] = "1/3"
		total := d.below(2001) - 1000
		if i%7 == 0 {
			total = total * (api.MaxTotal / 1000)
		}
		checkShares(t, total, weights)
	}
}

func checkShares(t *testing.T, total int, weights []string) {
	t.Helper()
	kept := slices.Clone(weights)
	l, e := exact.Share(total, weights)
	if want := justShares(t, total, weights); !slices.Equal(l, want) || e != api.OK {
		t.Fatalf("Share(%d, %q): %v, %d; %v is wanted", total, weights, l, e, want)
	}
	if !slices.Equal(kept, weights) {
		t.Errorf("Share(%d, %q) changed its weights to %q", total, kept, weights)
	}
	sum := 0
	for i, a := range l {
		sum += a
		for j, b := range l {
			if total >= 0 && rat(t, weights[i]).Cmp(rat(t, weights[j])) > 0 && a < b {
				t.Errorf("Share(%d, %q): %v: %d has less than %d", total, weights, l, i, j)
			}
		}
	}
	if sum != total {
		t.Errorf("Share(%d, %q): %v: %d together", total, weights, l, sum)
	}
}

// What holds everywhere: a list that comes out is new memory, and one that goes in stays as it is, spare room too.
func TestShareKeepsNothing(t *testing.T) {
	room := []string{"1", "1", "1", "spare"}
	a, _ := exact.Share(100, room[:3])
	b, _ := exact.Share(100, room[:3])
	a[0] = -1
	_ = append(a, -1)
	if !slices.Equal(b, []int{34, 33, 33}) {
		t.Error("two answers share memory:", b)
	}
	if !slices.Equal(room, []string{"1", "1", "1", "spare"}) {
		t.Error("what was handed in was changed:", room)
	}
}
