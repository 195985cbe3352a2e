package rework

import (
	"reelfeeder/api"
	"reelfeeder/whole"
	"reelfeeder/word"
)

// part is the part of the boards that have a value; false if there are no boards.
func part(values map[string]int, value int) (api.Fraction, bool) {
	if len(values) == 0 {
		return api.Fraction{}, false
	}
	many := 0
	for _, v := range values {
		if v == value {
			many++
		}
	}
	return whole.Lowest(many, len(values)), true
}

// FirstPass is the part of the boards that pass at first.
func FirstPass(r api.Rules, s []api.Step) (api.Fraction, bool, api.Errno) {
	first := map[string]int{} // the kind of the first inspection
	e := each(r, s, func(v event) {
		inspected := v.step.Kind == api.StepPass || v.step.Kind == api.StepFail
		if !inspected || v.refused != api.OK {
			return
		}
		if _, before := first[v.step.Board]; !before {
			first[v.step.Board] = v.step.Kind
		}
	})
	f, is := part(first, api.StepPass)
	return f, is, e
}

// Final is the part of the boards that are shipped.
func Final(r api.Rules, s []api.Step) (api.Fraction, bool, api.Errno) {
	ended := map[string]int{} // the state, which no step changes any more
	e := each(r, s, func(v event) {
		if v.to == api.BoardScrapped || v.to == api.BoardShipped {
			ended[v.step.Board] = v.to
		}
	})
	f, is := part(ended, api.BoardShipped)
	return f, is, e
}

// Loops is how often boards were repaired entirely.
func Loops(r api.Rules, s []api.Step) ([]api.Pair, api.Errno) {
	loops := map[string]int{}
	e := each(r, s, func(v event) {
		if v.from == api.BoardFailed && v.to == api.BoardSoldered {
			loops[v.step.Board]++
		}
	})
	return word.ByName(loops), e
}

// Worst is how often each component failed.
func Worst(r api.Rules, s []api.Step) ([]api.Pair, api.Errno) {
	fails := map[string]int{}
	e := each(r, s, func(v event) {
		if v.step.Kind == api.StepFail && v.refused == api.OK {
			fails[v.step.Component]++
		}
	})
	return word.ByNumber(fails), e
}
