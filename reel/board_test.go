package reel_test

import (
	"fmt"
	"math"
	"strings"
	"testing"

	"reelfeeder/api"
	"reelfeeder/reel"
)

// origins are those of words: "f a 5, f b 2" are 5 from a and 2 from b, by way of f.
func origins(words string) []api.Origin {
	var l []api.Origin
	for _, s := range strings.Split(words, ", ") {
		if w := strings.Fields(s); len(w) == 3 {
			l = append(l, api.Origin{Feeder: w[0], Reel: w[1], Many: number(w[2])})
		}
	}
	return l
}

// TestExample is the one at the end of the chapter.
func TestExample(t *testing.T) {
	r, f := reels("a p 5, b p 10"), feeds("load f a, splice f b, use f 7 u")
	is(t, "trace", two(reel.Trace(r, f, "u")), list{origins("f a 5, f b 2"), api.OK})
	is(t, "feeder", two(reel.Feeder(r, f, "f", 2)), list{loaded("b 8"), api.OK})
}

// TestBoard holds what board u has, and how often it went on with the next reel.
func TestBoard(t *testing.T) {
	for _, c := range []struct {
		events, want string
		splices      int
	}{
		{"", "", 0},
		{"load f a", "", 0},
		{"load f a, use f 1 v", "", 0},
		{"load f a, use f 2 u", "f a 2", 0},
		{"load f a, use f 2 u, use f 1 u", "f a 2, f a 1", 0}, // for each event
		{"load f a, use f 2 u, use f 1 v, use f 2 u", "f a 2, f a 2", 0},
		{"load f a, use f 6 u", "", 0}, // refused
		{"load f a, use f 6 u, use f 5 u", "f a 5", 0},
		{"load f a, splice f b, use f 5 u", "f a 5", 0}, // nothing is taken from b
		{"load f a, splice f b, use f 5 u, use f 1 u", "f a 5, f b 1", 0},
		{"load f a, splice f b, use f 6 u", "f a 5, f b 1", 1},
		{"load f a, splice f b, use f 6 u, use f 2 u", "f a 5, f b 1, f b 2", 1},
		{"load f a, splice f b, use f 6 v", "", 0},
		{"load f a, splice f b, use f 4 v, use f 2 u", "f a 1, f b 1", 1},
		{"load f a, splice f b, splice f d, use f 16 u", "f a 5, f b 10, f d 1", 2},
		{"load f a, splice f b, use f 6 u, splice f d, use f 10 u", "f a 5, f b 1, f b 9, f d 1", 2},
		{"load f a, splice f b, count a 0, use f 1 u", "f b 1", 0}, // nothing was taken from a
		{"load f a, use f 5 u, splice f b, use f 1 u", "f a 5, f b 1", 0},
		{"load f z, splice f a, use f 1 u", "f a 1", 0},
		{"load f a, splice f z, splice f b, use f 6 u", "f a 5, f b 1", 1}, // the next one with components
		{"load f a, splice f z, use f 5 u", "f a 5", 0},
		{"load f a, splice f b, use f 6 u, splice f a, count a 3, use f 11 u", "f a 5, f b 1, f b 9, f a 2", 2},
		{"load f a, load g c, use g 1 u, use f 2 u, use g 2 u", "g c 1, f a 2, g c 2", 0}, // in the order of events
		{"load g a, use g 3 u, unload g, load f a, use f 2 u", "g a 3, f a 2", 0},
		{"load f a, count a 100000, use f 100000 u", "f a 100000", 0},
	} {
		r, f := reels("a p 5, b p 10, c q 4, d p 3, z p 0"), feeds(c.events)
		is(t, "trace "+c.events, two(reel.Trace(r, f, "u")), list{origins(c.want), api.OK})
		is(t, "splices "+c.events, two(reel.Splices(r, f, "u")), list{c.splices, api.OK})
	}
	is(t, "the longest name", two(reel.Trace(nil, nil, long)), list{origins(""), api.OK})
	is(t, "a reel is no board", two(reel.Trace(reels(usualReels), feeds(usualFeeds), "a")), list{origins(""), api.OK})
}

func TestBoardsOfReel(t *testing.T) {
	r := reels("a p 5, b p 10, c q 4, z p 0")
	f := feeds("load f a, splice f b, use f 2 y, use f 4 x, use f 1 w, use f 1 x, use f 100 v, load g c, use g 4 y, splice g c, load h z, use h 1 u")
	for key, want := range map[string][]string{"a": keys("x", "y"), "b": keys("w", "x"), "c": keys("y"), "z": keys()} {
		is(t, key, two(reel.Boards(r, f, key)), list{want, api.OK})
	}
	is(t, "bytes in order", two(reel.Boards(r, feeds("load f a, use f 1 b1, use f 1 b_1, use f 1 b-1, use f 1 b"), "a")), list{keys("b", "b-1", "b1", "b_1"), api.OK})
	is(t, "without events", two(reel.Boards(r, nil, "a")), list{keys(), api.OK})
}

func TestUsed(t *testing.T) {
	r := reels("a p 50, b p 100, c q 40")
	f := feeds("load f a, splice f b, use f 20 u, use f 40 v, load e c, use e 3 u, use f 100 u, use e 1 u, use f 1 w, use n 1 u")
	for _, c := range []struct {
		from, to int
		want     string
	}{
		{0, api.End, "e 4, f 61"},
		{0, 0, ""}, {2, 2, ""}, {0, 2, ""}, {0, 3, "f 20"}, {2, 3, "f 20"}, {3, 4, "f 40"}, {2, 4, "f 60"}, {3, 6, "e 3, f 40"},
		{5, 7, "e 3"}, {6, 7, ""}, {6, 9, "e 1, f 1"}, {9, 10, ""}, {10, api.End, ""}, {api.End, api.End, ""},
	} {
		is(t, fmt.Sprint(c), two(reel.Used(r, f, api.Window{From: c.from, To: c.to})), list{pairs(c.want), api.OK})
	}
	last := []api.Feed{{At: 0, Kind: api.FeedLoad, Feeder: "f", Reel: "a"}, {At: api.End - 1, Kind: api.FeedUse, Feeder: "f", Many: 1, Board: "u"}}
	is(t, "the last moment", two(reel.Used(r, last, api.Window{From: api.End - 1, To: api.End})), list{pairs("f 1"), api.OK})
	is(t, "before it", two(reel.Used(r, last, api.Window{From: 0, To: api.End - 1})), list{pairs(""), api.OK})
}

// TestBoardErrors holds the errors of P6.4, and their order.
func TestBoardErrors(t *testing.T) {
	check := func(what string, r []api.Reel, f []api.Feed, board, key string, w api.Window, name, noReel, window api.Errno) {
		t.Helper()
		is(t, what+", Trace", two(reel.Trace(r, f, board)), list{origins(""), name})
		is(t, what+", Splices", two(reel.Splices(r, f, board)), list{0, name})
		is(t, what+", Boards", two(reel.Boards(r, f, key)), list{keys(), noReel})
		is(t, what+", Used", two(reel.Used(r, f, w)), list{pairs(""), window})
	}
	bad := api.Window{From: 1}
	check("reels", reels("a p 5, b P 1"), feeds("load f z"), "", "", bad, api.ErrName, api.ErrName, api.ErrName)
	check("events", reels("a p 5"), feeds("load f a, use f 1 u, load f z"), "", "", bad, api.ErrNone, api.ErrNone, api.ErrNone)
	check("large", reels("a p 5"), make([]api.Feed, api.MaxFeeds+1), "", "", bad, api.ErrLarge, api.ErrLarge, api.ErrLarge)
	r, f := reels("a p 5"), feeds("load f a, use f 1 u")
	for _, w := range [][2]int{{1, 0}, {-1, 0}, {-1, -1}, {0, -1}, {0, api.End + 1}, {api.End + 1, api.End + 1}, {api.End + 1, api.End}, {math.MinInt, math.MaxInt}, {math.MaxInt, math.MinInt}} {
		is(t, fmt.Sprint(w), two(reel.Used(r, f, api.Window{From: w[0], To: w[1]})), list{pairs(""), api.ErrArg})
	}
	for _, key := range badKeys {
		check(key, r, f, key, key, bad, api.ErrName, api.ErrNone, api.ErrArg)
	}
	check("no such reel", r, f, "b", "b", api.Window{}, api.OK, api.ErrNone, api.OK)
}
