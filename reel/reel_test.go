package reel_test

import (
	"fmt"
	"math"
	"strconv"
	"strings"
	"testing"

	"reelfeeder/api"
	"reelfeeder/reel"
)

type list = []any

// is compares values; a nil list is the same as an empty one.
func is(t *testing.T, what string, got, want any) {
	t.Helper()
	if g, w := fmt.Sprintf("%+v", got), fmt.Sprintf("%+v", want); g != w {
		t.Errorf("%s: got %.300s, want %.300s", what, g, w)
	}
}

// two and three are the results of a call as a list.
func two[A any](a A, e api.Errno) list { return list{a, e} }

func three[A, B any](a A, b B, e api.Errno) list { return list{a, b, e} }

// long is the longest key.
var long = strings.Repeat("k", api.MaxName)

// badKeys are no keys.
var badKeys = []string{"", "A", "7", "-a", "a b", "a\n", " ", "é", "\xff", long + "k"}

func number(s string) int {
	n, err := strconv.Atoi(s)
	if err != nil {
		panic(err)
	}
	return n
}

// reels are those of words: "a p 5, b q 0" are a with 5 of part p, and b with none of q.
func reels(words string) []api.Reel {
	var r []api.Reel
	for _, s := range strings.Split(words, ", ") {
		if w := strings.Fields(s); len(w) == 3 {
			r = append(r, api.Reel{Key: w[0], Part: w[1], Many: number(w[2])})
		}
	}
	return r
}

// feeds are events of words, each one a millisecond after the one before: "load f a, use f 7 u" are at 0 and at 1.
func feeds(words string) []api.Feed {
	var f []api.Feed
	for _, s := range strings.Split(words, ", ") {
		w := strings.Fields(s)
		if len(w) == 0 {
			continue
		}
		e := api.Feed{At: len(f)}
		switch w[0] {
		case "load":
			e.Kind, e.Feeder, e.Reel = api.FeedLoad, w[1], w[2]
		case "splice":
			e.Kind, e.Feeder, e.Reel = api.FeedSplice, w[1], w[2]
		case "unload":
			e.Kind, e.Feeder = api.FeedUnload, w[1]
		case "use":
			e.Kind, e.Feeder, e.Many, e.Board = api.FeedUse, w[1], number(w[2]), w[3]
		case "count":
			e.Kind, e.Reel, e.Many = api.FeedCount, w[1], number(w[2])
		default:
			panic(s)
		}
		f = append(f, e)
	}
	return f
}

// pairs are those of words: "f p, g q".
func pairs(words string) []api.Pair {
	var l []api.Pair
	for _, s := range strings.Split(words, ", ") {
		if name, value, ok := strings.Cut(s, " "); ok {
			l = append(l, api.Pair{Name: name, Value: value})
		}
	}
	return l
}

// manyReels are so many reels of part p with 1 component.
func manyReels(many int) []api.Reel {
	var r []api.Reel
	for i := range many {
		r = append(r, api.Reel{Key: fmt.Sprintf("r%06d", i), Part: "p", Many: 1})
	}
	return r
}

// outside are numbers that are not from 0 to most.
func outside(most int) []int { return []int{-1, most + 1, math.MinInt, math.MaxInt} }

// TestCheckReels holds the errors of P6.1 for reels, and their order.
func TestCheckReels(t *testing.T) {
	for _, c := range []struct {
		what string
		r    []api.Reel
		want api.Errno
	}{
		{"none", nil, api.OK},
		{"one", reels("a p 5"), api.OK},
		{"the same part", reels("a p 0, b p 100000"), api.OK},
		{"the longest keys", []api.Reel{{Key: long, Part: long}}, api.OK},
		{"the most reels", manyReels(api.MaxReels), api.OK},
		{"too many", manyReels(api.MaxReels + 1), api.ErrLarge},
		{"too many before their errors", make([]api.Reel, api.MaxReels+1), api.ErrLarge},
		{"much too many", make([]api.Reel, 200_000), api.ErrLarge},
		{"twice the same", reels("a p 5, a p 5"), api.ErrOrder},
		{"falling", reels("b p 5, a p 5"), api.ErrOrder},
		{"bytes in order", reels("a-1 p 5, a1 p 5, a_1 p 5"), api.OK},
		{"bytes out of order", reels("a1 p 5, a-1 p 5"), api.ErrOrder},
		{"falling later", reels("a p 5, c p 5, b p 5"), api.ErrOrder},
		{"name before number", reels("a p 5, B p -1"), api.ErrName},
		{"part before number", reels("a p 5, b P -1"), api.ErrName},
		{"number before order", reels("b p 5, a p -1"), api.ErrArg},
		{"name before order", reels("b p 5, a P 1"), api.ErrName},
		{"order before the next one's name", reels("b p 5, a p 5, C p 5"), api.ErrOrder},
		{"number before the next one's name", reels("b p -5, C p 5"), api.ErrArg},
	} {
		is(t, c.what, reel.CheckReels(c.r), c.want)
		is(t, c.what, reel.CheckFeeds(c.r, nil), c.want)
	}
	for _, key := range badKeys {
		is(t, key, reel.CheckReels([]api.Reel{{Key: key, Part: "p"}}), api.ErrName)
		is(t, key, reel.CheckReels([]api.Reel{{Key: "a", Part: key}}), api.ErrName)
	}
	for _, n := range outside(api.MaxOnReel) {
		is(t, fmt.Sprint(n), reel.CheckReels([]api.Reel{{Key: "a", Part: "p", Many: n}}), api.ErrArg)
	}
}

// alike are so many events that are all the same.
func alike(many int, f api.Feed) []api.Feed {
	l := make([]api.Feed, many)
	for i := range l {
		l[i] = f
	}
	return l
}

// TestCheckFeeds holds the errors of P6.1 for lists of events.
func TestCheckFeeds(t *testing.T) {
	r := reels("a p 5, b q 6")
	good := feeds("load f a")[0]
	later, last := good, good
	later.At, last.At = 7, api.End-1
	noName, noMoment := api.Feed{Kind: api.FeedUnload}, api.Feed{At: -1, Kind: 9}
	for _, c := range []struct {
		what string
		f    []api.Feed
		want api.Errno
	}{
		{"none", nil, api.OK},
		{"each kind", feeds("load f a, splice f b, unload f, use f 1 u, count a 0"), api.OK},
		{"nothing is done here", feeds("unload f, use f 100000 u, splice f a, load f a, load f a, count b 100000"), api.OK},
		{"at the same moment", []api.Feed{later, later}, api.OK},
		{"up to the last moment", []api.Feed{good, last, last}, api.OK},
		{"earlier", []api.Feed{later, good}, api.ErrOrder},
		{"earlier than the one before", []api.Feed{good, last, later}, api.ErrOrder},
		{"an error before order", []api.Feed{later, noName}, api.ErrName},
		{"order before the next one's error", []api.Feed{later, good, noMoment}, api.ErrOrder},
		{"the first one's last error", []api.Feed{{Kind: api.FeedUse, Feeder: "f", Board: "u"}, noMoment}, api.ErrArg},
		{"the second one's first error", []api.Feed{good, noName, noMoment}, api.ErrName},
		{"as many as there can be", alike(api.MaxFeeds, good), api.OK},
		{"too many", alike(api.MaxFeeds+1, good), api.ErrLarge},
		{"too many before their errors", alike(api.MaxFeeds+1, noMoment), api.ErrLarge},
		{"much too many", alike(200_000, noMoment), api.ErrLarge},
	} {
		is(t, c.what, reel.CheckFeeds(r, c.f), c.want)
	}
	is(t, "reels first", reel.CheckFeeds(reels("a p -1"), alike(api.MaxFeeds+1, good)), api.ErrArg)
	is(t, "reels first", reel.CheckFeeds(reels("a p 1, a p 1"), []api.Feed{noMoment}), api.ErrOrder)
	is(t, "without reels", reel.CheckFeeds(nil, feeds("unload f, use f 1 u")), api.OK)
	is(t, "without reels", reel.CheckFeeds(nil, feeds("load f a")), api.ErrNone)
}

// all is an event with all fields.
func all(kind int) api.Feed {
	return api.Feed{Kind: kind, Feeder: "f", Reel: "a", Many: 3, Board: "u"}
}

// TestCheckFeed holds the errors of P6.1 for an event: what is wrong with it, and the errors that come later.
func TestCheckFeed(t *testing.T) {
	check := func(what string, f api.Feed, want api.Errno) {
		t.Helper()
		is(t, fmt.Sprint(what, f), reel.CheckFeeds(reels("a p 5"), []api.Feed{f}), want)
	}
	for _, at := range outside(api.End - 1) {
		check("at", api.Feed{At: at, Kind: 9}, api.ErrArg)
	}
	for _, kind := range []int{0, 6, -1, math.MinInt, math.MaxInt} {
		check("kind", all(kind), api.ErrKind)
		check("kind", api.Feed{Kind: kind}, api.ErrKind)
	}
	for kind, fields := range map[int]string{api.FeedLoad: "fr", api.FeedSplice: "fr", api.FeedUnload: "f", api.FeedUse: "fmb", api.FeedCount: "rm"} {
		good := all(kind)
		for field, clear := range map[string]func(*api.Feed){
			"f": func(f *api.Feed) { f.Feeder = "" }, "r": func(f *api.Feed) { f.Reel = "" },
			"m": func(f *api.Feed) { f.Many = 0 }, "b": func(f *api.Feed) { f.Board = "" },
		} {
			if !strings.Contains(fields, field) {
				check("form", good, api.ErrForm)
				clear(&good)
			}
		}
		check("good", good, api.OK)
		wrong := func(want api.Errno, field string, change func(*api.Feed)) {
			if f := good; strings.Contains(fields, field) {
				change(&f)
				check("wrong", f, want)
			}
		}
		for _, key := range badKeys {
			wrong(api.ErrName, "f", func(f *api.Feed) { f.Feeder, f.Reel, f.Many = key, strings.Repeat("z", len(f.Reel)), -f.Many })
			wrong(api.ErrName, "b", func(f *api.Feed) { f.Board, f.Many = key, -f.Many })
			wrong(api.ErrNone, "r", func(f *api.Feed) { f.Reel, f.Many = key, -f.Many })
		}
		wrong(api.ErrNone, "r", func(f *api.Feed) { f.Reel = "b" })
		for _, n := range outside(api.MaxOnReel) {
			wrong(api.ErrArg, "m", func(f *api.Feed) { f.Many = n })
		}
		wrong(api.OK, "m", func(f *api.Feed) { f.Many = api.MaxOnReel })
		wrong(api.OK, "m", func(f *api.Feed) { f.Many = 1 })
	}
	check("use", feeds("use f 0 u")[0], api.ErrArg)
	check("count", feeds("count a 0")[0], api.OK)
	check("form before names", api.Feed{Kind: api.FeedUnload, Feeder: "F", Board: "u"}, api.ErrForm)
	check("form before reels", api.Feed{Kind: api.FeedCount, Reel: "z", Board: "u"}, api.ErrForm)
	check("form before numbers", api.Feed{Kind: api.FeedCount, Feeder: "f", Reel: "a", Many: -1}, api.ErrForm)
	check("a number that is not used", api.Feed{Kind: api.FeedUnload, Feeder: "f", Many: -1}, api.ErrForm)
	check("the longest keys", api.Feed{Kind: api.FeedUse, Feeder: long, Many: 1, Board: long}, api.OK)
}
