package reel_test

import (
	"strconv"
	"testing"

	"reelfeeder/api"
	"reelfeeder/reel"
)

// loaded are reels in a feeder: "a 5, b 0".
func loaded(words string) []api.Loaded {
	var l []api.Loaded
	for _, p := range pairs(words) {
		l = append(l, api.Loaded{Reel: p.Name, Left: number(p.Value)})
	}
	return l
}

// reasons are the indices of refused events, and why: "2 ErrState" is "2 11".
func reasons(words string) (indices []int, why []api.Errno) {
	for _, p := range pairs(words) {
		indices = append(indices, number(p.Name))
		why = append(why, api.Errno(number(p.Value)))
	}
	return indices, why
}

// The errors for which events are refused, as words.
var (
	none  = " " + strconv.Itoa(int(api.ErrNone))
	typ   = " " + strconv.Itoa(int(api.ErrType))
	state = " " + strconv.Itoa(int(api.ErrState))
	rule  = " " + strconv.Itoa(int(api.ErrRule))
)

// TestEvents holds P6.2: what is refused, and what is in feeder f afterwards.
func TestEvents(t *testing.T) {
	const most = 100_000
	for _, c := range []struct{ events, refused, f string }{
		{"", "", ""},
		{"load f a", "", "a 5"},
		{"load f a, load f b", "1" + state, "a 5"},
		{"load f a, load f a", "1" + state, "a 5"},
		{"load f a, load g a", "1" + state, "a 5"},
		{"load g a, load f a", "1" + state, ""},
		{"load f z, load f b", "1" + state, "z 0"}, // an empty reel is a reel
		{"load f a, splice f b, load g b", "2" + state, "a 5, b 10"},
		{"splice f a", "0" + none, ""},
		{"load g a, splice f a", "1" + none, ""}, // there is no reel before the reel is in a feeder
		{"load f a, splice f b", "", "a 5, b 10"},
		{"load f b, splice f a", "", "b 10, a 5"},
		{"load f b, splice f d, splice f a", "", "b 10, d 3, a 5"},
		{"load f a, splice f a", "1" + state, "a 5"},
		{"load f a, splice f b, splice f b", "2" + state, "a 5, b 10"},
		{"load f a, load g b, splice f b", "2" + state, "a 5"},
		{"load f a, splice f c", "1" + typ, "a 5"},
		{"load f a, load g c, splice f c", "2" + state, "a 5"}, // it is in a feeder before it has another part
		{"load f c, splice f a", "1" + typ, "c 4"},
		{"load f z, splice f c", "1" + typ, "z 0"},
		{"unload f", "0" + none, ""},
		{"load g a, unload f", "1" + none, ""},
		{"load f a, unload f", "", ""},
		{"load f a, unload f, unload f", "2" + none, ""},
		{"load f a, splice f b, unload f", "", ""},
		{"load f a, splice f b, unload f, load f b, splice f a", "", "b 10, a 5"},
		{"load f a, load g b, unload g", "", "a 5"},
		{"load f a, use f 2 u, unload f, load f a", "", "a 3"}, // it keeps what is left
		{"load f a, use f 2 u, unload f, load g a, use g 1 u, unload g, load f a", "", "a 2"},
		{"load f a, splice f b, use f 7 u, unload f, load f a, splice f b", "", "a 0, b 8"},
		{"use f 1 u", "0" + none, ""},
		{"load f a, unload f, use f 1 u", "2" + none, ""},
		{"use f 100000 u", "0" + none, ""},
		{"load f a, use f 1 u", "", "a 4"},
		{"load f a, use f 5 u", "", "a 0"}, // nothing follows
		{"load f a, use f 6 u", "1" + rule, "a 5"},
		{"load f a, use f 6 u, use f 5 u, use f 1 u", "1" + rule + ", 3" + rule, "a 0"},
		{"load f a, splice f b, use f 4 u", "", "a 1, b 10"},
		{"load f a, splice f b, use f 5 u", "", "b 10"}, // it goes on at its end
		{"load f a, splice f b, use f 7 u", "", "b 8"},
		{"load f a, splice f b, use f 15 u", "", "b 0"},
		{"load f a, splice f b, use f 16 u", "2" + rule, "a 5, b 10"},
		{"load f a, splice f b, splice f d, use f 15 u", "", "d 3"},
		{"load f a, splice f b, splice f d, use f 16 u", "", "d 2"},
		{"load f a, splice f b, use f 7 u, load f a", "3" + state, "b 8"},
		{"load f a, splice f b, use f 7 u, splice f a, use f 8 u", "", "a 0"}, // what was taken out can come again
		{"load f a, use f 5 u, splice f b", "", "a 0, b 10"},
		{"load f a, use f 5 u, splice f b, use f 11 u", "3" + rule, "a 0, b 10"}, // refused: a is not taken out
		{"load f a, use f 5 u, splice f b, use f 1 u", "", "b 9"},                // it goes on before it
		{"load f z, splice f a, splice f d, use f 1 u", "", "a 4, d 3"},
		{"load f a, splice f z, splice f d, use f 5 u", "", "d 3"},
		{"load f a, splice f z, splice f d, use f 6 u", "", "d 2"},
		{"load f a, splice f z, use f 5 u", "", "z 0"},
		{"load f a, splice f z, use f 1 u", "", "a 4, z 0"},
		{"load f z, use f 1 u", "1" + rule, "z 0"},
		{"count a 9", "", ""},
		{"count a 9, load f a", "", "a 9"},
		{"load f a, count a 9", "", "a 9"},
		{"load f a, count a 0", "", "a 0"},
		{"load f a, count a 0, use f 1 u", "2" + rule, "a 0"},
		{"load f a, splice f b, count a 0", "", "a 0, b 10"},
		{"load f a, splice f b, count a 0, use f 2 u", "", "b 8"},
		{"load f a, splice f b, count b 0, use f 5 u", "", "b 0"},
		{"load f a, splice f b, count b 0, splice f d, use f 6 u", "", "d 2"},
		{"load f a, splice f b, use f 7 u, count a 1, use f 1 u", "", "b 7"}, // a was taken out
		{"load f a, use f 5 u, count a 100000, use f 100000 u", "", "a 0"},
		{"load f a, use f 5 u, count a 0, count a 2, use f 3 u", "4" + rule, "a 2"},
		{"load f a, load g c, use g 4 u, use f 1 u", "", "a 4"},
	} {
		r, f := reels("a p 5, b p 10, c q 4, d p 3, z p 0"), feeds(c.events)
		indices, why := reasons(c.refused)
		is(t, c.events, three(reel.Refused(r, f)), list{indices, why, api.OK})
		is(t, c.events, two(reel.Feeder(r, f, "f", most)), list{loaded(c.f), api.OK})
	}
}

// TestRefusedErrors holds that Refused validates reels and events.
func TestRefusedErrors(t *testing.T) {
	nothing := func(e api.Errno) list { return list{[]int{}, []api.Errno{}, e} }
	is(t, "reels", three(reel.Refused(reels("a p -1"), feeds("load f z"))), nothing(api.ErrArg))
	is(t, "events", three(reel.Refused(reels("a p 1"), feeds("unload f, load f z"))), nothing(api.ErrNone))
	is(t, "too many", three(reel.Refused(nil, make([]api.Feed, api.MaxFeeds+1))), nothing(api.ErrLarge))
	is(t, "nothing", three(reel.Refused(nil, nil)), nothing(api.OK))
}

// TestOneMoment holds that events of the same moment are done in order.
func TestOneMoment(t *testing.T) {
	r, f := reels("a p 5"), feeds("load f a, use f 2 u, unload f")
	for i := range f {
		f[i].At = 4
	}
	is(t, "before", two(reel.Idle(r, f, 3)), list{[]string{"a"}, api.OK})
	is(t, "left before", two(reel.Left(r, f, "a", 3)), list{5, api.OK})
	is(t, "then", two(reel.Left(r, f, "a", 4)), list{3, api.OK})
	is(t, "refused", three(reel.Refused(r, f)), list{[]int{}, []api.Errno{}, api.OK})
	f[0], f[2] = f[2], f[0]
	is(t, "refused", three(reel.Refused(r, f)), list{[]int{0, 1}, []api.Errno{api.ErrNone, api.ErrNone}, api.OK})
}

// TestMostReels holds that as many reels and events as there can be are done soon, also with all reels in one feeder:
// 1,000 uses of 99,999 leave 1,000 of 100,000,000 components, and all but the first one end a reel.
func TestMostReels(t *testing.T) {
	r := manyReels(api.MaxReels)
	var f []api.Feed
	for i := range r {
		r[i].Many = api.MaxOnReel
		f = append(f, api.Feed{Kind: api.FeedSplice, Feeder: "f", Reel: r[i].Key})
	}
	f[0].Kind = api.FeedLoad
	for len(f) < api.MaxFeeds {
		f = append(f, api.Feed{Kind: api.FeedUse, Feeder: "f", Many: api.MaxOnReel - 1, Board: "u"})
	}
	indices, why, e := reel.Refused(r, f)
	is(t, "refused", list{len(indices), indices[0], len(why), why[0], e}, list{3000, 2000, 3000, api.ErrRule, api.OK})
	is(t, "before", two(reel.Lasts(r, f[:1000], "f", 0, 1)), list{100_000_000, api.OK})
	is(t, "after", two(reel.Lasts(r, f, "f", 0, 1)), list{1000, api.OK})
	is(t, "feeder", two(reel.Feeder(r, f, "f", 0)), list{loaded("r000999 1000"), api.OK})
	is(t, "used", two(reel.Used(r, f, api.Window{To: 1})), list{pairs("f 99999000"), api.OK})
	is(t, "splices", two(reel.Splices(r, f, "u")), list{999, api.OK})
	all, e := reel.Trace(r, f, "u")
	is(t, "trace", list{len(all), all[:3], e}, list{1999, origins("f r000000 99999, f r000000 1, f r000001 99998"), api.OK})
	is(t, "boards", two(reel.Boards(r, f, "r000999")), list{[]string{"u"}, api.OK})
}
