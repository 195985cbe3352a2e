package rework

import (
	"cmp"
	"maps"
	"slices"
	"sort"

	"reelfeeder/api"
	"reelfeeder/whole"
	"reelfeeder/word"
)

// checkMoment validates rules, steps and a moment.
func checkMoment(r api.Rules, s []api.Step, at int) api.Errno {
	if e := check(r, s); e != api.OK {
		return e
	}
	if !whole.Moment(at) {
		return api.ErrArg
	}
	return api.OK
}

// checkBoard validates rules, steps, the name of a board and a moment.
func checkBoard(r api.Rules, s []api.Step, board string, at int) api.Errno {
	if e := check(r, s); e != api.OK {
		return e
	}
	if !word.Key(board) {
		return api.ErrName
	}
	if !whole.Moment(at) {
		return api.ErrArg
	}
	return api.OK
}

// upTo are the steps up to a moment.
func upTo(s []api.Step, at int) []api.Step {
	return s[:sort.Search(len(s), func(i int) bool { return s[i].At > at })]
}

// boardsAt are all boards that have a step up to a moment, as they are then.
func boardsAt(r api.Rules, s []api.Step, at int) map[string]*board {
	return follow(r, upTo(s, at), func(event) {})
}

// those are the names of the boards that are so, sorted.
func those(boards map[string]*board, so func(*board) bool) []string {
	names := slices.Sorted(maps.Keys(boards))
	return slices.DeleteFunc(names, func(name string) bool { return !so(boards[name]) })
}

// At is the condition of a board.
func At(r api.Rules, s []api.Step, board string, at int) (api.Condition, api.Errno) {
	if e := checkBoard(r, s, board, at); e != api.OK {
		return api.Condition{}, e
	}
	b, is := boardsAt(r, s, at)[board]
	if !is {
		b = newBoard()
	}
	return b.condition(), api.OK
}

// Boards are those that have a state.
func Boards(r api.Rules, s []api.Step, at, state int) ([]string, api.Errno) {
	if e := checkMoment(r, s, at); e != api.OK {
		return nil, e
	}
	if !whole.Within(state, api.BoardNew, api.BoardShipped) {
		return nil, api.ErrKind
	}
	return those(boardsAt(r, s, at), func(b *board) bool { return b.state == state }), api.OK
}

// Waiting are the boards that failed, those that wait longest first.
func Waiting(r api.Rules, s []api.Step, at int) ([]string, api.Errno) {
	if e := checkMoment(r, s, at); e != api.OK {
		return nil, e
	}
	boards := boardsAt(r, s, at)
	waiting := those(boards, (*board).waits)
	slices.SortStableFunc(waiting, func(a, b string) int {
		return cmp.Compare(boards[a].since, boards[b].since)
	})
	return waiting, api.OK
}

// Hopeless are the boards that failed, and cannot be soldered any more.
func Hopeless(r api.Rules, s []api.Step, at int) ([]string, api.Errno) {
	if e := checkMoment(r, s, at); e != api.OK {
		return nil, e
	}
	return those(boardsAt(r, s, at), func(b *board) bool { return b.waits() && b.hopeless(r) }), api.OK
}

// Times is how long a board was in each state.
func Times(r api.Rules, s []api.Step, board string, at int) ([]int, api.Errno) {
	if e := checkBoard(r, s, board, at); e != api.OK {
		return nil, e
	}
	times := make([]int, api.BoardShipped)
	state, since := 0, 0 // no state before the first step
	stay := func(until int) {
		if state != 0 {
			times[state-api.BoardNew] += until - since
		}
	}
	follow(r, upTo(s, at), func(v event) {
		if v.step.Board == board {
			stay(v.step.At)
			state, since = v.to, v.step.At
		}
	})
	if state == 0 {
		return nil, api.ErrNone
	}
	stay(at)
	return times, api.OK
}
