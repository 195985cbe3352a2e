package reel_test

import (
	"fmt"
	"testing"

	"reelfeeder/api"
	"reelfeeder/reel"
)

// The reels and events of most tests of questions: reel a runs out at 3 and comes into another feeder at 6, and the
// events at 2, 4 and 8 are refused.
const (
	usualReels = "a p 5, b p 10, c q 4, d p 0"
	usualFeeds = "load f a, splice f b, splice f c, use f 7 u, use f 9 v, use f 3 v, load g a, load e c, use g 1 w, use e 4 u, unload f, count d 2, count a 1"
)

// keys are those of a list.
func keys(words ...string) []string { return words }

func TestFeeder(t *testing.T) {
	r, f := reels(usualReels), feeds(usualFeeds)
	for _, c := range []struct {
		feeder string
		at     int
		want   string
	}{
		{"f", 0, "a 5"}, {"f", 1, "a 5, b 10"}, {"f", 2, "a 5, b 10"}, {"f", 3, "b 8"}, {"f", 4, "b 8"}, {"f", 5, "b 5"},
		{"f", 9, "b 5"}, {"f", 10, ""}, {"f", api.End - 1, ""},
		{"g", 0, ""}, {"g", 5, ""}, {"g", 6, "a 0"}, {"g", 11, "a 0"}, {"g", 12, "a 1"}, {"g", api.End - 1, "a 1"},
		{"e", 6, ""}, {"e", 8, "c 4"}, {"e", 9, "c 0"}, {"nobody", 5, ""}, {"a", 5, ""}, {long, 5, ""},
	} {
		is(t, fmt.Sprint("feeder ", c.feeder, c.at), two(reel.Feeder(r, f, c.feeder, c.at)), list{loaded(c.want), api.OK})
	}
	is(t, "without events", two(reel.Feeder(r, nil, "f", 0)), list{loaded(""), api.OK})
	is(t, "without reels", two(reel.Feeder(nil, feeds("unload f"), "f", 0)), list{loaded(""), api.OK})
}

func TestLasts(t *testing.T) {
	r, f := reels(usualReels), feeds(usualFeeds)
	for _, c := range []struct {
		feeder         string
		at, each, want int
	}{
		{"f", 0, 1, 5}, {"f", 0, 2, 2}, {"f", 0, 5, 1}, {"f", 0, 6, 0},
		{"f", 1, 1, 15}, {"f", 1, 4, 3}, {"f", 1, 5, 3}, {"f", 1, 7, 2}, {"f", 1, 8, 1}, // with both reels
		{"f", 3, 3, 2}, {"f", 10, 1, 0}, {"g", 5, 1, 0}, {"g", 6, 1, 0}, {"g", 12, 1, 1}, {"nobody", 5, 1, 0},
		{"f", 1, api.MaxOnReel, 0},
	} {
		is(t, fmt.Sprint("lasts ", c), two(reel.Lasts(r, f, c.feeder, c.at, c.each)), list{c.want, api.OK})
	}
}

func TestLeft(t *testing.T) {
	r, f := reels(usualReels), feeds(usualFeeds)
	for key, want := range map[string][]int{
		"a": {5, 5, 5, 0, 0, 0, 0, 0, 0, 0, 0, 0, 1, 1},
		"b": {10, 10, 10, 8, 8, 5, 5, 5, 5, 5, 5, 5, 5, 5},
		"c": {4, 4, 4, 4, 4, 4, 4, 4, 4, 0, 0, 0, 0, 0},
		"d": {0, 0, 0, 0, 0, 0, 0, 0, 0, 0, 0, 2, 2, 2},
	} {
		for at, left := range want {
			is(t, fmt.Sprint("left ", key, at), two(reel.Left(r, f, key, at)), list{left, api.OK})
		}
		is(t, "at the end", two(reel.Left(r, f, key, api.End-1)), list{want[13], api.OK})
	}
}

func TestWhere(t *testing.T) {
	r, f := reels(usualReels), feeds(usualFeeds)
	for key, want := range map[string]string{"a": "fff...ggggggg", "b": ".fffffffff...", "c": ".......eeeeee", "d": "............."} {
		for at := range want {
			feeder := want[at : at+1]
			if feeder == "." {
				feeder = ""
			}
			is(t, fmt.Sprint("where ", key, at), three(reel.Where(r, f, key, at)), list{feeder, feeder != "", api.OK})
		}
	}
}

func TestIdle(t *testing.T) {
	r, f := reels(usualReels), feeds(usualFeeds)
	for at, want := range [][]string{
		keys("b", "c"), keys("c"), keys("c"), keys("c"), keys("c"), keys("c"), keys("c"), keys(), keys(), keys(), keys("b"), keys("b", "d"), keys("b", "d"),
	} {
		is(t, fmt.Sprint("idle ", at), two(reel.Idle(r, f, at)), list{want, api.OK})
	}
	is(t, "at first", two(reel.Idle(r, nil, 0)), list{keys("a", "b", "c"), api.OK})
	is(t, "none", two(reel.Idle(nil, nil, 0)), list{keys(), api.OK})
	is(t, "before the first event", two(reel.Idle(r, []api.Feed{{At: 9, Kind: api.FeedLoad, Feeder: "f", Reel: "a"}}, 8)), list{keys("a", "b", "c"), api.OK})
}

func TestWrong(t *testing.T) {
	r, f := reels(usualReels+", z q 0"), feeds("load e z, load f a, splice f b, load g c")
	for _, c := range []struct {
		want  string
		at    int
		wrong []string
	}{
		{"", 3, keys()},
		{"e q, f p, g q", 3, keys()},
		{"e p, f q, g p", 3, keys("e", "f", "g")},
		{"e q, f p, g q", 0, keys("f", "g")},
		{"e q, f p, g q", 1, keys("g")},
		{"a p, f p, h p", 3, keys("a", "h")},
		{"f unknown, g q", 3, keys("f")},
		{"f f, g a, h b", 3, keys("f", "g", "h")},
	} {
		is(t, fmt.Sprint(c), two(reel.Wrong(r, f, c.at, pairs(c.want))), list{c.wrong, api.OK})
	}
	is(t, "the first reel", two(reel.Wrong(r, feeds("load f a, use f 5 u, splice f b"), 2, pairs("f p"))), list{keys(), api.OK})
	is(t, "after an unload", two(reel.Wrong(r, feeds("load f a, unload f"), 1, pairs("f p"))), list{keys("f"), api.OK})
}

// TestWrongErrors holds the errors of pairs, and their order.
func TestWrongErrors(t *testing.T) {
	r, f := reels(usualReels), feeds(usualFeeds)
	most := make([]api.Pair, api.MaxFeeders)
	for i := range most {
		most[i] = api.Pair{Name: fmt.Sprintf("f%03d", i), Value: "p"}
	}
	for _, c := range []struct {
		what string
		at   int
		want []api.Pair
		e    api.Errno
	}{
		{"the moment first", -1, make([]api.Pair, api.MaxFeeders+1), api.ErrArg},
		{"the moment first", api.End, []api.Pair{{}}, api.ErrArg},
		{"too many first", 0, make([]api.Pair, api.MaxFeeders+1), api.ErrLarge},
		{"too many", 0, append(most[:len(most):len(most)], api.Pair{Name: "g", Value: "p"}), api.ErrLarge},
		{"much too many", 0, make([]api.Pair, 200_000), api.ErrLarge},
		{"twice", 0, pairs("f p, f p"), api.ErrOrder},
		{"falling", 0, pairs("f p, g p, e p"), api.ErrOrder},
		{"name before order", 0, pairs("f p, e P"), api.ErrName},
		{"order before the next name", 0, pairs("f p, e p, F p"), api.ErrOrder},
	} {
		is(t, c.what, two(reel.Wrong(r, f, c.at, c.want)), list{keys(), c.e})
	}
	for _, key := range badKeys {
		is(t, key, two(reel.Wrong(r, f, 0, []api.Pair{{Name: key, Value: "p"}})), list{keys(), api.ErrName})
		is(t, key, two(reel.Wrong(r, f, 0, []api.Pair{{Name: "f", Value: key}})), list{keys(), api.ErrName})
	}
	wrong, e := reel.Wrong(r, f, 12, most)
	is(t, "as many as there can be", list{len(wrong), e}, list{api.MaxFeeders, api.OK})
}

// TestQuestionErrors holds the errors of the questions of P6.3 but Wrong, and their order.
func TestQuestionErrors(t *testing.T) {
	type questions struct{ feeder, reel, lasts, idle api.Errno }
	check := func(what string, r []api.Reel, f []api.Feed, feeder, key string, at, each int, want questions) {
		t.Helper()
		is(t, what+", Feeder", two(reel.Feeder(r, f, feeder, at)), list{loaded(""), want.feeder})
		is(t, what+", Lasts", two(reel.Lasts(r, f, feeder, at, each)), list{0, want.lasts})
		is(t, what+", Left", two(reel.Left(r, f, key, at)), list{0, want.reel})
		is(t, what+", Where", three(reel.Where(r, f, key, at)), list{"", false, want.reel})
		is(t, what+", Idle", two(reel.Idle(r, f, at)), list{keys(), want.idle})
	}
	alike := func(e api.Errno) questions { return questions{e, e, e, e} }
	check("reels", reels("b p 5, a p 5"), feeds("load f z"), "", "", -1, 0, alike(api.ErrOrder))
	check("events", reels("a p 5"), []api.Feed{{}}, "", "", -1, 0, alike(api.ErrKind))
	check("events that are later", reels("a p 5"), feeds("unload f, load f a, load f z"), "f", "a", 1, 1, alike(api.ErrNone))
	r, f := reels("a p 0"), feeds("unload f")
	unnamed := questions{api.ErrName, api.ErrNone, api.ErrName, api.ErrArg}
	for _, key := range badKeys {
		check(fmt.Sprintf("%q", key), r, f, key, key, -1, 0, unnamed)
	}
	for _, at := range outside(api.End - 1) {
		check(fmt.Sprint(at), r, f, "f", "a", at, 0, alike(api.ErrArg))
		check(fmt.Sprint("no reel ", at), r, f, "f", "b", at, 0, questions{api.ErrArg, api.ErrNone, api.ErrArg, api.ErrArg})
	}
	for _, each := range append(outside(api.MaxOnReel), 0) {
		check(fmt.Sprint("each ", each), r, f, "f", "a", 0, each, questions{lasts: api.ErrArg})
	}
}
