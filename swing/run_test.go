package swing_test

import (
	"math/rand/v2"
	"slices"
	"sync"
	"testing"

	"gridworks/api"
	"gridworks/swing"
)

// P12.2: F behind each step; without stages it is Step after Step.
func TestRun(t *testing.T) {
	r := swung{damp: 1, mass: 5, dt: 0.5, made: []float64{10, 10}, drawn: []float64{20, 20}}
	wantRun(t, r, "", -1, -1.9)
	wantRun(t, plain(0, []float64{5, 0, 9}, []float64{1, 2, 4}), "", 4, 2, 7)
	wantRun(t, plain(-8, []float64{1, 1, 1}, []float64{0, 0, 0}), "", -7, -6, -5)
	wantRun(t, plain(0.1, []float64{0.2, 0.3}, []float64{0, 0}), "", 0.30000000000000004, 0.6000000000000001)
}

// P12.2: a stage that F is below sheds ahead of the step, and so counts in it.
func TestRunSheds(t *testing.T) {
	half := api.Stage{At: -1, Part: 0.5}
	wantRun(t, plain(-2, []float64{0}, []float64{8}, half), "1", -6)
	wantRun(t, plain(0, []float64{0, 0, 8}, []float64{8, 8, 8}, half), "1", -8, -12, -8)
	wantRun(t, plain(0, []float64{0}, []float64{8}, half), "0", -8) // below it behind the last step: too late
	wantRun(t, plain(5, []float64{9}, []float64{8}, half), "0", 6)
	wantRun(t, plain(-2, []float64{0}, []float64{8}, api.Stage{At: -1, Part: 1}), "1", -2)
	wantRun(t, plain(-2, []float64{0}, []float64{8}, api.Stage{At: -1, Part: 2}), "1", 6)
	wantRun(t, plain(-2, []float64{0}, []float64{8}, api.Stage{At: -1, Part: -1}), "1", -18)
	wantRun(t, plain(-2, []float64{4}, []float64{-8}, half), "1", 6)
}

// P12.2: one that is just as low is not below it.
func TestRunEdge(t *testing.T) {
	at := func(x float64) api.Stage { return api.Stage{At: x, Part: 0.5} }
	still := []float64{0}
	wantRun(t, plain(-1, still, still, at(-1)), "0", -1)
	wantRun(t, plain(-1, still, still, at(-0.9999999999999999)), "1", -1)
	wantRun(t, plain(-1, still, still, at(-1.0000000000000002)), "0", -1)
	wantRun(t, plain(0, still, still, at(0)), "0", 0)
	wantRun(t, plain(0, still, still, at(less)), "0", 0)
	wantRun(t, plain(less, still, still, at(0)), "0", 0) // -0 is not below 0 here
	wantRun(t, plain(-tiny, still, still, at(0)), "1", -tiny)
	wantRun(t, plain(0, still, still, at(tiny)), "1", 0)
	wantRun(t, plain(great, still, still, at(inf)), "1", great)
	wantRun(t, plain(-great, still, still, at(-inf)), "0", -great)
	wantRun(t, plain(-1, still, still, at(nan)), "0", -1)
	wantRun(t, plain(nan, still, still, at(inf)), "0", nan)
}

// P12.2: what has shed stays so, however high F is, and sheds its part but once.
func TestRunStays(t *testing.T) {
	half, quarter := api.Stage{At: -1, Part: 0.5}, api.Stage{At: -5, Part: 0.25}
	r := plain(50, []float64{0, 0}, []float64{8, 8}, half, quarter)
	wantRun(t, r, "00", 42, 34)
	r.Gone = []bool{true, false}
	wantRun(t, r, "10", 46, 42)
	r.Gone = []bool{false, true}
	wantRun(t, r, "01", 44, 38)
	r.Gone = []bool{true, true}
	wantRun(t, r, "11", 48, 46)
	wantRun(t, plain(-2, []float64{100, 0, 0}, []float64{8, 8, 8}, half), "1", 94, 90, 86)
	wantRun(t, plain(-2, []float64{0, 0, 0}, []float64{8, 8, 8}, half, quarter), "11", -6, -8, -10)
	r = plain(-9, []float64{0}, []float64{8}, half)
	r.Gone = []bool{true}
	wantRun(t, r, "1", -13)
}

// P12.2: each stage by itself: they stand in any order, some as low as others, and several shed at once.
func TestRunStages(t *testing.T) {
	low, mid, high := api.Stage{At: -8, Part: 0.125}, api.Stage{At: -4, Part: 0.25}, api.Stage{At: -2, Part: 0.5}
	still, eight := []float64{0}, []float64{8}
	wantRun(t, plain(-3, still, eight, low, mid, high), "001", -7)
	wantRun(t, plain(-5, still, eight, low, mid, high), "011", -7)
	wantRun(t, plain(-9, still, eight, low, mid, high), "111", -10)
	wantRun(t, plain(-5, still, eight, high, low, mid), "101", -7)
	wantRun(t, plain(-3, still, eight, high, high, high), "111", 1)
	wantRun(t, plain(-3, []float64{0, 0, 0}, []float64{8, 16, 16}, low, mid, high), "111", -7, -11, -13)
	wantRun(t, plain(-9, still, eight, low, low, low, low, low, low), "111111", -11)
}

// P12.2: parts are added in the order of the list, not in the order in which they shed; kept is 1 less them all; all that is rounded.
func TestRunRounded(t *testing.T) {
	parts := func(p, q, r float64) []api.Stage {
		return []api.Stage{{At: 9, Part: p}, {At: 9, Part: q}, {At: 9, Part: r}}
	}
	one := func(made, drawn float64, l []api.Stage, want float64) {
		t.Helper()
		r := plain(0, []float64{made}, []float64{drawn}, l...)
		wantRun(t, r, "111", want)
		r.Gone = []bool{true, true, true}
		wantRun(t, r, "111", want)
		r.Gone = []bool{false, false, true} // the last one has shed first
		wantRun(t, r, "111", want)
	}
	one(1.8, 7.3, parts(0.10500000000000001, 0.485, 0.26), 0.7049999999999998)               // drawn times kept, fused: ..705
	one(0.7, 3.1, parts(0.16499999999999998, 0.025, 0.255), -1.0205000000000002)             // the last two first: ..205
	one(7.8, 5.9, parts(0.03, 0.365, 0.08), 4.702500000000001)                               // 1 less each: ..25
	one(8.8, 8.5, parts(0.32, 0.1, 0.03), 4.125000000000001)                                 // drawn less what is shed of it: ..02
	one(7.6, 5.4, parts(0.41, 0.255, 0.12), 6.439)                                           // from the end: ..8999
	one(0, 1, parts(1e16, 1, -1e16), -1)                                                     // the one is lost
	one(0, 1, parts(1e16, -1e16, 1), 0)                                                      // and here it isn't
	one(0, 1, parts(great, great, -great), inf)                                              // too great on the way
	one(0, 1, parts(less, less, less), -1)                                                   // 0 and -0: 0
	wantRun(t, plain(0, []float64{0}, []float64{-1}, api.Stage{At: 1, Part: 1e-17}), "1", 1) // 1 less so little is 1
	wantRun(t, plain(0, []float64{0}, []float64{1e17}, api.Stage{At: 1, Part: 1e-17}), "1", -1e17)
}

// P12.2: parts that are no numbers, or infinite, count when their stages have shed, and not before.
func TestRunNoNumber(t *testing.T) {
	made, drawn := []float64{0, 0}, []float64{1, 1}
	wantRun(t, plain(0, made, drawn, api.Stage{At: -5, Part: nan}, api.Stage{At: -5, Part: inf}), "00", -1, -2)
	wantRun(t, plain(0, made, drawn, api.Stage{At: -0.5, Part: nan}), "1", -1, nan)
	wantRun(t, plain(0, made, drawn, api.Stage{At: -0.5, Part: inf}), "1", -1, inf)
	wantRun(t, plain(0, made, drawn, api.Stage{At: -0.5, Part: -inf}), "1", -1, -inf)
	wantRun(t, plain(-1, made, drawn, api.Stage{Part: inf}, api.Stage{Part: -inf}), "11", nan, nan)
	wantRun(t, plain(-1, made, []float64{0, 1}, api.Stage{Part: inf}), "1", nan, nan)
	wantRun(t, plain(nan, made, drawn, api.Stage{At: inf, Part: 0.5}), "0", nan, nan)
	wantRun(t, plain(0, []float64{inf, 0, -inf}, []float64{0, 0, 0}, api.Stage{At: inf, Part: 0.5}), "1", inf, nan, nan)
	wantRun(t, plain(0, []float64{-inf, 0}, []float64{0, 0}, api.Stage{At: -great, Part: 0.5}), "1", -inf, nan)
	r := plain(less, []float64{less, less}, []float64{0, 0})
	r.damp = less
	wantRun(t, r, "", less, less)
	r.made, r.drawn = []float64{less, 0}, []float64{0, 0}
	wantRun(t, r, "", less, 0)
	r = plain(0, made, drawn)
	r.mass = 0
	wantRun(t, r, "", -inf, nan)
}

// P12.2: no steps: nothing sheds, and the swing stays as it is.
func TestRunNoSteps(t *testing.T) {
	for _, f := range []float64{0, less, 3, -3, inf, -inf, nan} {
		wantRun(t, plain(f, nil, nil), "")
		wantRun(t, plain(f, []float64{}, nil), "")
		r := plain(f, nil, []float64{}, api.Stage{At: 100, Part: 0.5}, api.Stage{At: 100, Part: nan}, api.Stage{})
		r.Gone = []bool{false, true, false}
		wantRun(t, r, "010")
	}
	r := plain(1, []float64{1}, []float64{2})
	r.Gone, r.stages = nil, nil
	wantRun(t, r, "", 0)
}

// P12.2: as many steps and stages as may be, and one more; lists that do not go with one another.
func TestRunRefused(t *testing.T) {
	long := func(n int) []float64 { return make([]float64, n) }
	stages := func(n int) []api.Stage { return make([]api.Stage, n) }
	wantRun(t, plain(0, long(api.MaxSteps), long(api.MaxSteps), stages(api.MaxStages)...), "000000", long(api.MaxSteps)...)
	noRun(t, plain(1, long(api.MaxSteps+1), long(api.MaxSteps+1), stages(1)...), api.ErrSize)
	noRun(t, plain(1, long(1000), long(1000)), api.ErrSize)
	noRun(t, plain(1, long(api.MaxSteps), long(api.MaxSteps+1)), api.ErrSize)
	noRun(t, plain(1, long(api.MaxSteps+1), long(api.MaxSteps)), api.ErrSize)
	noRun(t, plain(1, long(3), long(2), stages(1)...), api.ErrSize)
	noRun(t, plain(1, long(2), long(3), stages(1)...), api.ErrSize)
	noRun(t, plain(1, nil, long(1)), api.ErrSize)
	noRun(t, plain(1, long(1), nil), api.ErrSize)
	noRun(t, plain(1, long(1), long(1), stages(api.MaxStages+1)...), api.ErrSize)
	noRun(t, plain(nan, nil, nil, stages(api.MaxStages+1)...), api.ErrSize)
	for gone := range api.MaxStages + 2 {
		for n := range api.MaxStages + 2 {
			for _, steps := range []int{0, 2} {
				r := plain(-1, long(steps), long(steps), stages(n)...)
				r.Gone = slices.Repeat([]bool{true}, gone)
				if gone != n || n > api.MaxStages {
					noRun(t, r, api.ErrSize)
				} else {
					wantRun(t, r, text(r.Gone), slices.Repeat([]float64{-1}, steps)...)
				}
			}
		}
	}
}

// byHand: a run in the tests' own way, by exact fractions.
func byHand(r swung) (string, []float64) {
	f, gone, told := r.F, slices.Clone(r.Gone), []float64(nil)
	for i := range r.made {
		shed := 0.0
		for k, s := range r.stages {
			if gone[k] = gone[k] || f < s.At; gone[k] {
				shed = plus(shed, s.Part)
			}
		}
		f = later(f, r.made[i], times(r.drawn[i], minus(1, shed)), r.damp, r.mass, r.dt)
		told = append(told, f)
	}
	return text(gone), told
}

// drawnSwung: common numbers that keep F near the stages, or any.
func drawnSwung(d *rand.Rand, wild bool) swung {
	draw := drawnFloat
	if !wild {
		draw = drawnCommon
	}
	r := swung{Swing: api.Swing{F: draw(d)}, damp: d.Float64(), mass: 1 + 9*d.Float64(), dt: d.Float64() / 2}
	if wild {
		r.damp, r.mass, r.dt = draw(d), draw(d), draw(d)
	}
	for range d.IntN(13) {
		r.made, r.drawn = append(r.made, draw(d)), append(r.drawn, draw(d)+5)
	}
	for range d.IntN(api.MaxStages + 1) {
		s := api.Stage{At: draw(d) / 2, Part: d.Float64() / 4}
		if wild {
			s.Part = draw(d)
		}
		r.stages = append(r.stages, s)
		r.Gone = append(r.Gone, d.IntN(6) == 0)
	}
	return r
}

// P12.2: drawn runs.
func TestDrawnRuns(t *testing.T) {
	d := rand.New(rand.NewPCG(12, 4))
	sheds := 0
	for i := range 6000 {
		r := drawnSwung(d, i%3 == 0)
		gone, want := byHand(r)
		wantRun(t, r, gone, want...)
		if gone != text(r.Gone) {
			sheds++
		}
	}
	if sheds < 1500 {
		t.Errorf("stages shed in %d runs alone", sheds)
	}
}

// P12.2: a run may be cut in two, wherever one likes.
func TestRunCut(t *testing.T) {
	d := rand.New(rand.NewPCG(12, 5))
	for i := range 1500 {
		r := drawnSwung(d, i%3 == 0)
		whole, want, _ := r.run()
		cut := d.IntN(len(r.made) + 1)
		head, tail := r, r
		head.made, head.drawn = r.made[:cut], r.drawn[:cut]
		tail.made, tail.drawn = r.made[cut:], r.drawn[cut:]
		s, l, _ := head.run()
		tail.Swing = s
		s, m, _ := tail.run()
		if !same(s.F, whole.F) || !slices.Equal(s.Gone, whole.Gone) || !slices.EqualFunc(append(l, m...), want, same) {
			t.Errorf("%v cut at %d: %v, %v, %v; %v, %v is wanted", r, cut, s, l, m, whole, want)
		}
	}
}

// P12.2: where F is 0, what is made is drawn, and no stage sheds, F stays 0.
func TestRunRests(t *testing.T) {
	d := rand.New(rand.NewPCG(12, 6))
	for range 300 {
		r := swung{damp: drawnCommon(d), mass: 1 + d.Float64(), dt: d.Float64(), stages: []api.Stage{{At: 0, Part: 0.5}, {At: -1, Part: 0.3}}}
		r.Gone = make([]bool, 2)
		for range api.MaxSteps {
			r.made = append(r.made, drawnCommon(d))
		}
		r.drawn = slices.Clone(r.made)
		wantRun(t, r, "00", make([]float64, api.MaxSteps)...)
	}
}

// P12.2: what is handed in stays as it is, its spare room too, and what is told is new memory.
func TestRunMemory(t *testing.T) {
	r := plain(0, nil, nil)
	made, keptMade := roomy(77.0, 0, 1, 2)
	drawn, keptDrawn := roomy(88.0, 8, 8, 8)
	stages, keptStages := roomy(api.Stage{At: 5, Part: 9}, api.Stage{At: -1, Part: 0.5}, api.Stage{At: -90, Part: 0.25})
	gone, keptGone := roomy(true, false, false)
	r.made, r.drawn, r.stages, r.Gone = made, drawn, stages, gone
	check := func() {
		t.Helper()
		wantKept(t, made, keptMade)
		wantKept(t, drawn, keptDrawn)
		wantKept(t, stages, keptStages)
		wantKept(t, gone, keptGone)
	}
	s, l, _ := r.run()
	check()
	fill(s.Gone, true)
	fill(l, 99)
	check()
	wantRun(t, r, "10", -8, -11, -13)
	s, l, _ = r.run()
	again, m, _ := r.run()
	fill(again.Gone, true)
	fill(m, 99)
	fill(made, 5)
	fill(drawn, 5)
	fill(gone, true)
	fill(stages, api.Stage{})
	if text(s.Gone) != "10" || !slices.Equal(l, []float64{-8, -11, -13}) {
		t.Errorf("told: %v, %v; what is handed in, or told later, is shared", s, l)
	}
}

// P12.2: nothing is kept from run to run, nor shared by runs at the same time.
func TestRunAtOnce(t *testing.T) {
	d := rand.New(rand.NewPCG(12, 7))
	r := drawnSwung(d, false)
	for len(r.stages) < 4 || len(r.made) < 8 {
		r = drawnSwung(d, false)
	}
	gone, want := byHand(r)
	var all sync.WaitGroup
	for range 40 {
		all.Go(func() {
			for range 20 {
				s, l, e := swing.Run(r.Swing, r.damp, r.mass, r.dt, r.made, r.drawn, r.stages)
				if text(s.Gone) != gone || !slices.EqualFunc(l, want, same) || e != api.OK {
					t.Errorf("%v, %v, %d; %v, %v is wanted", s, l, e, gone, want)
				}
			}
		})
	}
	all.Wait()
}
