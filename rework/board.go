package rework

import (
	"maps"
	"slices"

	"reelfeeder/api"
)

// board is what has become of a board.
type board struct {
	state, since, heats int
	open                map[string]bool // the components with open defects
	repaired            map[string]int  // how often each component was repaired
}

// newBoard is a board before its first step.
func newBoard() *board {
	return &board{state: api.BoardNew, open: map[string]bool{}, repaired: map[string]int{}}
}

// why is the error for which a step is refused.
func (b *board) why(r api.Rules, s api.Step) api.Errno {
	repair := s.Kind == api.StepRepair
	switch {
	case !possible(s.Kind, b.state):
		return api.ErrState
	case s.Kind == api.StepFail && b.open[s.Component]:
		return api.ErrTwice
	case repair && !b.open[s.Component]:
		return api.ErrNone
	case repair && b.repaired[s.Component] >= r.Repairs:
		return api.ErrRule
	case (repair || s.Kind == api.StepReflow) && b.heats >= r.Heats:
		return api.ErrRule
	}
	return api.OK
}

// possible says whether boards in a state can have steps of a kind.
func possible(kind, state int) bool {
	switch kind {
	case api.StepReflow:
		return state == api.BoardNew || state == api.BoardSoldered
	case api.StepFail:
		return state == api.BoardSoldered || state == api.BoardFailed
	case api.StepPass:
		return state == api.BoardSoldered
	case api.StepRepair:
		return state == api.BoardFailed
	case api.StepScrap:
		return state != api.BoardScrapped && state != api.BoardShipped
	}
	return state == api.BoardPassed
}

// do does a step that is not refused.
func (b *board) do(s api.Step) {
	switch s.Kind {
	case api.StepReflow:
		b.heats++
		b.become(api.BoardSoldered, s.At)
	case api.StepFail:
		b.open[s.Component] = true
		b.become(api.BoardFailed, s.At)
	case api.StepPass:
		b.become(api.BoardPassed, s.At)
	case api.StepRepair:
		b.repair(s.Component, s.At)
	case api.StepScrap:
		b.become(api.BoardScrapped, s.At)
	case api.StepShip:
		b.become(api.BoardShipped, s.At)
	}
}

func (b *board) repair(component string, at int) {
	b.heats++
	b.repaired[component]++
	delete(b.open, component)
	if len(b.open) == 0 {
		b.become(api.BoardSoldered, at)
	}
}

func (b *board) become(state, at int) {
	if b.state != state {
		b.state, b.since = state, at
	}
}

// waits says whether a board has to be repaired.
func (b *board) waits() bool { return b.state == api.BoardFailed }

// hopeless says whether not all open defects can be repaired: each one takes a repair and a heat.
func (b *board) hopeless(r api.Rules) bool {
	if len(b.open) > r.Heats-b.heats {
		return true
	}
	for component := range b.open {
		if b.repaired[component] >= r.Repairs {
			return true
		}
	}
	return false
}

func (b *board) condition() api.Condition {
	return api.Condition{State: b.state, Since: b.since, Heats: b.heats, Open: slices.Sorted(maps.Keys(b.open))}
}
