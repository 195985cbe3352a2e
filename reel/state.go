package reel

import (
	"slices"

	"reelfeeder/api"
	"reelfeeder/whole"
)

// state is which reels are in feeders, and what each reel has left.
type state struct {
	part   map[string]string   // of each reel
	left   map[string]int      // of each reel
	feeder map[string]string   // of each reel that is in one
	reels  map[string][]string // of each feeder that has some, the first one first
}

// atFirst is the state before all events.
func atFirst(r []api.Reel) state {
	s := state{map[string]string{}, map[string]int{}, map[string]string{}, map[string][]string{}}
	for _, reel := range r {
		s.part[reel.Key] = reel.Part
		s.left[reel.Key] = reel.Many
	}
	return s
}

// do does a valid event, and tells from which reels components were taken, or why the event is refused.
func (s state) do(f api.Feed) ([]api.Origin, api.Errno) {
	switch f.Kind {
	case api.FeedLoad:
		return nil, s.load(f.Feeder, f.Reel)
	case api.FeedSplice:
		return nil, s.splice(f.Feeder, f.Reel)
	case api.FeedUnload:
		return nil, s.unload(f.Feeder)
	case api.FeedUse:
		return s.use(f.Feeder, f.Many)
	}
	s.left[f.Reel] = f.Many
	return nil, api.OK
}

func (s state) load(feeder, reel string) api.Errno {
	if s.has(feeder) || s.loaded(reel) {
		return api.ErrState
	}
	s.put(feeder, reel)
	return api.OK
}

func (s state) splice(feeder, reel string) api.Errno {
	switch {
	case !s.has(feeder):
		return api.ErrNone
	case s.loaded(reel):
		return api.ErrState
	case s.part[reel] != s.part[s.reels[feeder][0]]:
		return api.ErrType
	}
	s.put(feeder, reel)
	return api.OK
}

func (s state) unload(feeder string) api.Errno {
	if !s.has(feeder) {
		return api.ErrNone
	}
	for s.has(feeder) {
		s.takeOut(feeder)
	}
	return api.OK
}

func (s state) use(feeder string, many int) ([]api.Origin, api.Errno) {
	if !s.has(feeder) {
		return nil, api.ErrNone
	}
	if s.together(feeder) < many {
		return nil, api.ErrRule
	}
	var from []api.Origin
	s.goOn(feeder)
	for many > 0 {
		reel := s.reels[feeder][0]
		taken := min(many, s.left[reel])
		s.left[reel] -= taken
		many -= taken
		from = append(from, api.Origin{Feeder: feeder, Reel: reel, Many: taken})
		s.goOn(feeder)
	}
	return from, api.OK
}

// goOn takes empty reels out of a feeder, up to its last reel.
func (s state) goOn(feeder string) {
	for len(s.reels[feeder]) > 1 && s.left[s.reels[feeder][0]] == 0 {
		s.takeOut(feeder)
	}
}

// has says whether a feeder has a reel.
func (s state) has(feeder string) bool { return len(s.reels[feeder]) > 0 }

// loaded says whether a reel is in a feeder.
func (s state) loaded(reel string) bool {
	_, is := s.feeder[reel]
	return is
}

// together is what all reels of a feeder have left.
func (s state) together(feeder string) int {
	sum := 0
	for _, reel := range s.reels[feeder] {
		sum += s.left[reel]
	}
	return sum
}

// put makes a reel the last one of a feeder.
func (s state) put(feeder, reel string) {
	s.feeder[reel] = feeder
	s.reels[feeder] = append(s.reels[feeder], reel)
}

// takeOut takes the first reel out of a feeder.
func (s state) takeOut(feeder string) {
	l := s.reels[feeder]
	delete(s.feeder, l[0])
	s.reels[feeder] = l[1:]
}

// stateAt is the state after all events up to a moment. It validates reels and events, then returns the error of what
// is asked for, then validates the moment.
func stateAt(r []api.Reel, f []api.Feed, asked api.Errno, at int) (state, api.Errno) {
	if e := CheckFeeds(r, f); e != api.OK {
		return state{}, e
	}
	if asked != api.OK {
		return state{}, asked
	}
	if !whole.Moment(at) {
		return state{}, api.ErrArg
	}
	s := atFirst(r)
	for _, event := range upTo(f, at) {
		s.do(event)
	}
	return s, api.OK
}

// upTo are the events up to a moment.
func upTo(f []api.Feed, at int) []api.Feed {
	later := slices.IndexFunc(f, func(event api.Feed) bool { return event.At > at })
	if later < 0 {
		return f
	}
	return f[:later]
}

// Refused are the events that are refused, and why.
func Refused(r []api.Reel, f []api.Feed) ([]int, []api.Errno, api.Errno) {
	if e := CheckFeeds(r, f); e != api.OK {
		return nil, nil, e
	}
	var refused []int
	var why []api.Errno
	s := atFirst(r)
	for i, event := range f {
		if _, e := s.do(event); e != api.OK {
			refused = append(refused, i)
			why = append(why, e)
		}
	}
	return refused, why, api.OK
}
