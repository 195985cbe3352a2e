package reel

import (
	"maps"
	"slices"

	"reelfeeder/api"
	"reelfeeder/whole"
	"reelfeeder/word"
)

// eachUse tells took about each event that takes components, and from where. It validates reels and events, then
// returns the error of what is asked for.
func eachUse(r []api.Reel, f []api.Feed, asked api.Errno, took func(event api.Feed, from []api.Origin)) api.Errno {
	if e := CheckFeeds(r, f); e != api.OK {
		return e
	}
	if asked != api.OK {
		return asked
	}
	s := atFirst(r)
	for _, event := range f {
		if from, _ := s.do(event); len(from) > 0 {
			took(event, from)
		}
	}
	return api.OK
}

// Trace is from which reels a board has its components.
func Trace(r []api.Reel, f []api.Feed, board string) ([]api.Origin, api.Errno) {
	var all []api.Origin
	e := eachUse(r, f, needKey(board), func(event api.Feed, from []api.Origin) {
		if event.Board == board {
			all = append(all, from...)
		}
	})
	return all, e
}

// Splices is how often a board went on with the next reel.
func Splices(r []api.Reel, f []api.Feed, board string) (int, api.Errno) {
	splices := 0
	e := eachUse(r, f, needKey(board), func(event api.Feed, from []api.Origin) {
		if event.Board == board {
			splices += len(from) - 1
		}
	})
	return splices, e
}

// Boards are those with components from a reel.
func Boards(r []api.Reel, f []api.Feed, reel string) ([]string, api.Errno) {
	boards := map[string]bool{}
	e := eachUse(r, f, needReel(r, reel), func(event api.Feed, from []api.Origin) {
		if slices.ContainsFunc(from, func(o api.Origin) bool { return o.Reel == reel }) {
			boards[event.Board] = true
		}
	})
	return slices.Sorted(maps.Keys(boards)), e
}

// Used are how many components were taken from each feeder in a window.
func Used(r []api.Reel, f []api.Feed, w api.Window) ([]api.Pair, api.Errno) {
	many := map[string]int{}
	e := eachUse(r, f, needWindow(w), func(event api.Feed, _ []api.Origin) {
		if w.From <= event.At && event.At < w.To {
			many[event.Feeder] += event.Many
		}
	})
	return word.ByName(many), e
}

// needWindow is the error of a window that is asked for.
func needWindow(w api.Window) api.Errno {
	if !whole.Within(w.From, 0, w.To) || w.To > api.End {
		return api.ErrArg
	}
	return api.OK
}
