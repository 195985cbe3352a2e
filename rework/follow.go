package rework

import "reelfeeder/api"

// event is a step that was done, or refused, and the states of its board before and after it.
type event struct {
	index    int
	step     api.Step
	from, to int
	refused  api.Errno // why, or OK
}

// follow does valid steps one after the other, and tells each one. It returns all boards that have a step.
func follow(r api.Rules, s []api.Step, tell func(event)) map[string]*board {
	boards := map[string]*board{}
	for i, step := range s {
		b, is := boards[step.Board]
		if !is {
			b = newBoard()
			boards[step.Board] = b
		}
		from, refused := b.state, b.why(r, step)
		if refused == api.OK {
			b.do(step)
		}
		tell(event{index: i, step: step, from: from, to: b.state, refused: refused})
	}
	return boards
}

// each validates rules and steps, and tells what became of each step.
func each(r api.Rules, s []api.Step, tell func(event)) api.Errno {
	if e := check(r, s); e != api.OK {
		return e
	}
	follow(r, s, tell)
	return api.OK
}

// Refused are the steps that are refused, and why.
func Refused(r api.Rules, s []api.Step) ([]int, []api.Errno, api.Errno) {
	var refused []int
	var why []api.Errno
	e := each(r, s, func(v event) {
		if v.refused != api.OK {
			refused = append(refused, v.index)
			why = append(why, v.refused)
		}
	})
	return refused, why, e
}
