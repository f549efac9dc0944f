package swing

import (
	"sync"

	"gridworks/api"
)

// stage at work: a plain one, and whether it has shed.
type stage struct {
	api.Stage
	once sync.Once
	gone bool
}

// shed, once and for all: nothing brings it back.
func (s *stage) shed() {
	s.once.Do(func() { s.gone = true })
}

// atWork: the stages, some of which have shed ahead of the run.
func atWork(l []api.Stage, gone []bool) []stage {
	stages := make([]stage, len(l))
	for i := range stages {
		stages[i].Stage = l[i]
		if gone[i] {
			stages[i].shed()
		}
	}
	return stages
}

// watch the frequency: each stage that it is below sheds.
func watch(stages []stage, f float64) {
	for i := range stages {
		if f < stages[i].At {
			stages[i].shed()
		}
	}
}

// kept: the part of what is drawn that is not shed. The parts are added up anew at each step: in another order, as stages shed, they may be rounded to another sum.
func kept(stages []stage) float64 {
	shed := 0.0
	for i := range stages {
		if stages[i].gone {
			shed = float64(shed + stages[i].Part)
		}
	}
	return float64(1 - shed)
}

// haveShed: of each stage whether it has.
func haveShed(stages []stage) []bool {
	l := make([]bool, len(stages))
	for i := range stages {
		l[i] = stages[i].gone
	}
	return l
}
