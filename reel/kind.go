package reel

import "reelfeeder/api"

// kind is how events of a kind are written: its word, and which fields follow it.
type kind struct {
	word                      string
	feeder, reel, many, board bool
}

// kindOf is the kind with a number.
func kindOf(number int) (kind, bool) {
	switch number {
	case api.FeedLoad:
		return kind{word: "load", feeder: true, reel: true}, true
	case api.FeedSplice:
		return kind{word: "splice", feeder: true, reel: true}, true
	case api.FeedUnload:
		return kind{word: "unload", feeder: true}, true
	case api.FeedUse:
		return kind{word: "use", feeder: true, many: true, board: true}, true
	case api.FeedCount:
		return kind{word: "count", reel: true, many: true}, true
	}
	return kind{}, false
}

// kindCalled is the kind with a word, and its number.
func kindCalled(word string) (int, kind, bool) {
	for number := api.FeedLoad; number <= api.FeedCount; number++ {
		if k, _ := kindOf(number); k.word == word {
			return number, k, true
		}
	}
	return 0, kind{}, false
}

// checkForm validates the kind of an event, and the fields that this kind does not use.
func checkForm(f api.Feed) (kind, api.Errno) {
	k, is := kindOf(f.Kind)
	if !is {
		return kind{}, api.ErrKind
	}
	if !k.feeder && f.Feeder != "" || !k.reel && f.Reel != "" || !k.many && f.Many != 0 || !k.board && f.Board != "" {
		return kind{}, api.ErrForm
	}
	return k, api.OK
}

// fields gives the fields of an event that its kind uses to name or to count, in the order in which they are written.
func (k kind) fields(f *api.Feed, name func(*string), count func(*int)) {
	if k.feeder {
		name(&f.Feeder)
	}
	if k.reel {
		name(&f.Reel)
	}
	if k.many {
		count(&f.Many)
	}
	if k.board {
		name(&f.Board)
	}
}
