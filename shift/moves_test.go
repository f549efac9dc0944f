package shift_test

import (
	"math/big"
	"math/rand/v2"
	"slices"
	"testing"

	"gridworks/api"
	"gridworks/shift"
)

// P5.2: the chapter's example, and the triangle's other lines.
func TestMoves(t *testing.T) {
	n := triangle()
	wantMoves(t, n, lacking(n), 0, "-1 -1 1")
	wantMoves(t, n, lacking(n), 1, "-1 -1 1")
	wantMoves(t, n, lacking(n), 2, "1 1 -1")
}

// P5.2: what takes over does so by its Worth, and by the way it is told; what is out takes nothing.
func TestMovesParallel(t *testing.T) {
	n := network(2, []wire{{0, 1, 1}, {1, 0, 2}, {0, 1, 3}, {0, 1, 10000}}, nil)
	wantMoves(t, n, lacking(n, 3), 0, "-1 -2/5 3/5 0")
	wantMoves(t, n, lacking(n, 3), 1, "-1/4 -1 -3/4 0")
	wantMoves(t, n, lacking(n, 3), 2, "1/3 -2/3 -1 0")
	wantMoves(t, n, lacking(n, 0, 3), 2, "0 -1 -1 0")
	wantMoves(t, n, lacking(n), 3, "1/6 -1/3 1/2 -1")
}

// P5.2: a square with a line across: not all moves one way.
func TestMovesAcross(t *testing.T) {
	n := network(4, []wire{{0, 1, 1}, {1, 2, 1}, {2, 3, 1}, {3, 0, 1}, {0, 2, 1}}, nil)
	wantMoves(t, n, lacking(n), 0, "-1 -1 -1/3 -1/3 2/3")
	wantMoves(t, n, lacking(n), 4, "1/2 1/2 -1/2 -1/2 -1")
	wantMoves(t, n, lacking(n, 4), 0, "-1 -1 -1 -1 0")
}

// P5.2: no other island's lines take over anything, nor does a bridge of its own.
func TestMovesOfIslands(t *testing.T) {
	n := network(7, []wire{{1, 2, 5}, {4, 3, 2}, {4, 3, 3}, {2, 1, 5}, {4, 5, 1}, {3, 6, 1}}, nil)
	wantMoves(t, n, lacking(n), 0, "-1 0 0 -1 0 0")
	wantMoves(t, n, lacking(n), 1, "0 -1 1 0 0 0")
	wantMoves(t, n, lacking(n), 2, "0 1 -1 0 0 0")
	unmoved(t, n, lacking(n), 4, api.ErrSplit)
	unmoved(t, n, lacking(n), 5, api.ErrSplit)
}

// P5.2: a closed tie keeps an island whole; over a line within one node nothing can flow, and nothing moves when it goes out.
func TestMovesOfNodes(t *testing.T) {
	n := network(3, []wire{{0, 1, 3}, {1, 2, 5}, {0, 2, 7}}, []wire{{2, 0, 0}})
	wantMoves(t, n, lacking(n), 2, "0 0 -1")
	wantMoves(t, n, lacking(n), 0, "-1 -1 0")
	wantMoves(t, n, lacking(n), 1, "-1 -1 0")
	wantMoves(t, n, lacking(n, 0, 1), 2, "0 0 -1")
	unmoved(t, n, lacking(n, 0), 1, api.ErrSplit)
	n.Ties[0].Closed = false
	wantMoves(t, n, lacking(n), 2, "1 1 -1")
	unmoved(t, n, lacking(n, 0, 1), 2, api.ErrSplit)
}

// P5.2: moves of drawn networks, held against shares: with k in service its ends' shares are parted anew, but for what flowed over k itself.
func TestDrawnMoves(t *testing.T) {
	d := rand.New(rand.NewPCG(5, 3))
	for range 100 {
		n, out := drawn(d, api.MaxBuses, api.MaxLines, 5, api.MaxWorth)
		s := sharesOf(t, n, out)
		for _, k := range movable(t, n, out) {
			part := func(line int) *big.Rat {
				return new(big.Rat).Sub(rat(t, s[line][n.Lines[k].From]), rat(t, s[line][n.Lines[k].To]))
			}
			left := new(big.Rat).Sub(big.NewRat(1, 1), part(k))
			m, e := shift.Moves(n, out, k)
			if e != api.OK || len(m) != len(n.Lines) || m[k] != "-1" {
				t.Fatalf("Moves(%+v, %v, %d): %q, %d", n, out, k, m, e)
			}
			for i := range m {
				if want := new(big.Rat).Quo(part(i), left).RatString(); i != k && m[i] != want {
					t.Errorf("Moves(%+v, %v, %d): of line %d %s; %s is wanted", n, out, k, i, m[i], want)
				}
			}
		}
	}
}

// P5.2: what moves is lost nowhere: of each node as much more flows in as out.
func TestMovesLoseNothing(t *testing.T) {
	n := largest()
	for k := range n.Lines {
		m, e := shift.Moves(n, lacking(n), k)
		if e != api.OK || len(m) != len(n.Lines) {
			t.Fatalf("Moves(%+v, none, %d): %q, %d", n, k, m, e)
		}
		away := slices.Repeat([]string{"0"}, len(n.Buses))
		for i, l := range n.Lines {
			away[l.From] = plus(t, away[l.From], "1", m[i])
			away[l.To] = plus(t, away[l.To], "-1", m[i])
		}
		if !slices.Equal(away, slices.Repeat([]string{"0"}, len(n.Buses))) {
			t.Errorf("line %d: %q flow away", k, away)
		}
	}
}

// P5.2: to turn a line round (From, To) turns what is told of it alone; if it is the one that goes out, all but itself.
func TestMovesTurned(t *testing.T) {
	d := rand.New(rand.NewPCG(5, 4))
	for range 40 {
		n, out := drawn(d, 8, 16, 3, 30)
		for _, k := range movable(t, n, out) {
			m, _ := shift.Moves(n, out, k)
			for turn := range n.Lines {
				other := n
				other.Lines = slices.Clone(n.Lines)
				l := &other.Lines[turn]
				l.From, l.To = l.To, l.From
				r, e := shift.Moves(other, out, k)
				if e != api.OK || len(r) != len(m) {
					t.Fatalf("Moves(%+v, %v, %d): %q, %d", other, out, k, r, e)
				}
				for i := range r {
					sign := "1"
					if (turn == i) != (turn == k) {
						sign = "-1"
					}
					if r[i] != plus(t, "0", sign, m[i]) {
						t.Errorf("Moves(%+v, %v, %d): %q; with line %d turned round %q", n, out, k, m, turn, r)
					}
				}
			}
		}
	}
}

// P5.2: what is answered is new memory, and what is handed in stays as it is, its spare room too.
func TestMovesOwnMemory(t *testing.T) {
	n := triangle()
	out := append(make([]bool, 0, 8), false, false, false)
	m, _ := shift.Moves(n, out, 2)
	r, _ := shift.Moves(n, out, 2)
	m = m[:cap(m)]
	for i := range m {
		m[i] = "x"
	}
	if !slices.Equal(r, words("1 1 -1")) {
		t.Error(r)
	}
	wantMoves(t, n, out, 2, "1 1 -1")
	if slices.Contains(out[:8], true) || !slices.Equal(n.Lines, triangle().Lines) || !slices.Equal(n.Buses, triangle().Buses) {
		t.Error(n, out[:8])
	}
}
