package reel

import (
	"reelfeeder/api"
	"reelfeeder/whole"
	"reelfeeder/word"
)

// Feeder are the reels in a feeder.
func Feeder(r []api.Reel, f []api.Feed, feeder string, at int) ([]api.Loaded, api.Errno) {
	s, e := stateAt(r, f, needKey(feeder), at)
	if e != api.OK {
		return nil, e
	}
	var all []api.Loaded
	for _, reel := range s.reels[feeder] {
		all = append(all, api.Loaded{Reel: reel, Left: s.left[reel]})
	}
	return all, api.OK
}

// Lasts is how many boards can still be made.
func Lasts(r []api.Reel, f []api.Feed, feeder string, at, each int) (int, api.Errno) {
	s, e := stateAt(r, f, needKey(feeder), at)
	if e != api.OK {
		return 0, e
	}
	if !whole.Within(each, 1, api.MaxOnReel) {
		return 0, api.ErrArg
	}
	return s.together(feeder) / each, api.OK
}

// Wrong are the feeders whose first reel has not the part that is wanted.
func Wrong(r []api.Reel, f []api.Feed, at int, want []api.Pair) ([]string, api.Errno) {
	s, e := stateAt(r, f, api.OK, at)
	if e != api.OK {
		return nil, e
	}
	if e := checkWanted(want); e != api.OK {
		return nil, e
	}
	var wrong []string
	for _, w := range want {
		if !s.has(w.Name) || s.part[s.reels[w.Name][0]] != w.Value {
			wrong = append(wrong, w.Name)
		}
	}
	return wrong, api.OK
}

// checkWanted validates pairs of a feeder and the part that is wanted there.
func checkWanted(want []api.Pair) api.Errno {
	if len(want) > api.MaxFeeders {
		return api.ErrLarge
	}
	for i, w := range want {
		switch {
		case !word.Key(w.Name) || !word.Key(w.Value):
			return api.ErrName
		case i > 0 && w.Name <= want[i-1].Name:
			return api.ErrOrder
		}
	}
	return api.OK
}

// Left is what a reel has left.
func Left(r []api.Reel, f []api.Feed, reel string, at int) (int, api.Errno) {
	s, e := stateAt(r, f, needReel(r, reel), at)
	if e != api.OK {
		return 0, e
	}
	return s.left[reel], api.OK
}

// Where is the feeder that has a reel.
func Where(r []api.Reel, f []api.Feed, reel string, at int) (string, bool, api.Errno) {
	s, e := stateAt(r, f, needReel(r, reel), at)
	if e != api.OK {
		return "", false, e
	}
	feeder, is := s.feeder[reel]
	return feeder, is, api.OK
}

// Idle are the reels that are in no feeder and have components left.
func Idle(r []api.Reel, f []api.Feed, at int) ([]string, api.Errno) {
	s, e := stateAt(r, f, api.OK, at)
	if e != api.OK {
		return nil, e
	}
	var idle []string
	for _, reel := range r {
		if !s.loaded(reel.Key) && s.left[reel.Key] > 0 {
			idle = append(idle, reel.Key)
		}
	}
	return idle, api.OK
}
