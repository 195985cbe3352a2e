package reel_test

import (
	"fmt"
	"math/rand"
	"slices"
	"testing"

	"reelfeeder/api"
	"reelfeeder/reel"
)

// The names that occur in events by chance.
var (
	someFeeders = keys("f", "g", "h")
	someReels   = keys("a", "b", "c", "d", "e")
	someBoards  = keys("u", "v", "w")
)

// world is reels and feeders from which components are taken one by one, as P6.2 says it.
type world struct {
	reels []api.Reel // with what they have left
	in    []api.Pair // of a feeder and a reel that is in it, in the order in which they were put in
}

func (w *world) reel(key string) *api.Reel {
	return &w.reels[slices.IndexFunc(w.reels, func(r api.Reel) bool { return r.Key == key })]
}

func (w *world) of(feeder string) []*api.Reel {
	var l []*api.Reel
	for _, p := range w.in {
		if p.Name == feeder {
			l = append(l, w.reel(p.Value))
		}
	}
	return l
}

func (w *world) where(reel string) string {
	for _, p := range w.in {
		if p.Value == reel {
			return p.Name
		}
	}
	return ""
}

func (w *world) goOn(feeder string) {
	for l := w.of(feeder); len(l) > 1 && l[0].Many == 0; l = w.of(feeder) {
		w.in = slices.DeleteFunc(w.in, func(p api.Pair) bool { return p.Value == l[0].Key })
	}
}

func (w *world) left(feeder string) int {
	sum := 0
	for _, r := range w.of(feeder) {
		sum += r.Many
	}
	return sum
}

// why is the error for which an event is refused.
func (w *world) why(f api.Feed) api.Errno {
	in := w.of(f.Feeder)
	switch {
	case f.Kind == api.FeedCount:
		return api.OK
	case f.Kind == api.FeedLoad && len(in) > 0:
		return api.ErrState
	case f.Kind != api.FeedLoad && len(in) == 0:
		return api.ErrNone
	case f.Reel != "" && w.where(f.Reel) != "":
		return api.ErrState
	case f.Kind == api.FeedSplice && in[0].Part != w.reel(f.Reel).Part:
		return api.ErrType
	case f.Many > w.left(f.Feeder):
		return api.ErrRule
	}
	return api.OK
}

// do does an event that is not refused, and tells from which reel each component is taken.
func (w *world) do(f api.Feed) []string {
	var from []string
	switch f.Kind {
	case api.FeedLoad, api.FeedSplice:
		w.in = append(w.in, api.Pair{Name: f.Feeder, Value: f.Reel})
	case api.FeedUnload:
		w.in = slices.DeleteFunc(w.in, func(p api.Pair) bool { return p.Name == f.Feeder })
	case api.FeedUse:
		for range f.Many {
			w.goOn(f.Feeder)
			first := w.of(f.Feeder)[0]
			first.Many--
			from = append(from, first.Key)
			w.goOn(f.Feeder)
		}
	case api.FeedCount:
		w.reel(f.Reel).Many = f.Many
	}
	return from
}

// anyReels are some reels of two parts.
func anyReels(r *rand.Rand) []api.Reel {
	var l []api.Reel
	for _, key := range someReels {
		l = append(l, api.Reel{Key: key, Part: []string{"p", "p", "p", "q"}[r.Intn(4)], Many: r.Intn(7)})
	}
	return l
}

// anyFeeds are so many events of few feeders, reels and boards, some of them at the same moment.
func anyFeeds(r *rand.Rand, many int, counts bool) []api.Feed {
	one := func(l []string) string { return l[r.Intn(len(l))] }
	kinds := []int{api.FeedLoad, api.FeedLoad, api.FeedSplice, api.FeedSplice, api.FeedSplice, api.FeedUnload, api.FeedUse, api.FeedUse, api.FeedUse, api.FeedUse, api.FeedCount}
	if !counts {
		kinds = kinds[:len(kinds)-1]
	}
	var l []api.Feed
	at := 0
	for range many {
		at += r.Intn(3)
		f := api.Feed{At: at, Kind: kinds[r.Intn(len(kinds))], Feeder: one(someFeeders)}
		switch f.Kind {
		case api.FeedLoad, api.FeedSplice:
			f.Reel = one(someReels)
		case api.FeedUse:
			f.Many, f.Board = 1+r.Intn(8), one(someBoards)
		case api.FeedCount:
			f.Feeder, f.Reel, f.Many = "", one(someReels), r.Intn(6)
		}
		l = append(l, f)
	}
	return l
}

// TestEveryFeeder holds Refused and the questions of P6.3 against components that are taken one by one.
func TestEveryFeeder(t *testing.T) {
	r := rand.New(rand.NewSource(6))
	refusals := map[api.Errno]int{}
	for range 400 {
		rs, fs := anyReels(r), anyFeeds(r, r.Intn(40), true)
		w := world{reels: slices.Clone(rs)}
		var indices []int
		var why []api.Errno
		for i, f := range fs {
			if e := w.why(f); e != api.OK {
				indices, why = append(indices, i), append(why, e)
				refusals[e]++
			} else {
				w.do(f)
			}
			if i+1 == len(fs) || fs[i+1].At > f.At {
				compare(t, w, rs, fs, f.At)
			}
		}
		is(t, fmt.Sprint("refused ", rs, fs), three(reel.Refused(rs, fs)), list{indices, why, api.OK})
	}
	for _, e := range []api.Errno{api.ErrNone, api.ErrState, api.ErrType, api.ErrRule} {
		if refusals[e] < 100 {
			t.Error("too few events are refused:", e, refusals[e])
		}
	}
}

// compare holds the questions about a moment against a world.
func compare(t *testing.T, w world, rs []api.Reel, fs []api.Feed, at int) {
	what := fmt.Sprint(rs, fs, at)
	var idle, wrong []string
	for _, key := range someReels {
		many, where := w.reel(key).Many, w.where(key)
		is(t, "left "+what, two(reel.Left(rs, fs, key, at)), list{many, api.OK})
		is(t, "where "+what, three(reel.Where(rs, fs, key, at)), list{where, where != "", api.OK})
		if where == "" && many > 0 {
			idle = append(idle, key)
		}
	}
	var want []api.Pair
	for _, feeder := range someFeeders {
		in := w.of(feeder)
		var l []api.Loaded
		for _, r := range in {
			l = append(l, api.Loaded{Reel: r.Key, Left: r.Many})
		}
		is(t, "feeder "+what, two(reel.Feeder(rs, fs, feeder, at)), list{l, api.OK})
		for each := 1; each < 5; each++ {
			is(t, "lasts "+what, two(reel.Lasts(rs, fs, feeder, at, each)), list{w.left(feeder) / each, api.OK})
		}
		want = append(want, api.Pair{Name: feeder, Value: "p"})
		if len(in) == 0 || in[0].Part != "p" {
			wrong = append(wrong, feeder)
		}
	}
	is(t, "idle "+what, two(reel.Idle(rs, fs, at)), list{idle, api.OK})
	is(t, "wrong "+what, two(reel.Wrong(rs, fs, at, want)), list{wrong, api.OK})
}

// taken is a component that a board got.
type taken struct {
	use, at             int
	feeder, reel, board string
}

// components are all those that boards got.
func components(rs []api.Reel, fs []api.Feed) []taken {
	w := world{reels: slices.Clone(rs)}
	var l []taken
	for i, f := range fs {
		if w.why(f) != api.OK {
			continue
		}
		for _, key := range w.do(f) {
			l = append(l, taken{i, f.At, f.Feeder, key, f.Board})
		}
	}
	return l
}

// TestEveryBoard holds P6.4 against components that are taken one by one.
func TestEveryBoard(t *testing.T) {
	r := rand.New(rand.NewSource(7))
	spliced := 0
	for range 5000 {
		rs, fs := anyReels(r), anyFeeds(r, r.Intn(40), true)
		all := components(rs, fs)
		what := fmt.Sprint(rs, fs)
		for _, board := range someBoards {
			origins, splices := traced(all, board)
			spliced += splices
			is(t, "trace "+what, two(reel.Trace(rs, fs, board)), list{origins, api.OK})
			is(t, "splices "+what, two(reel.Splices(rs, fs, board)), list{splices, api.OK})
		}
		for _, key := range someReels {
			var boards []string
			for _, c := range all {
				if c.reel == key && !slices.Contains(boards, c.board) {
					boards = append(boards, c.board)
				}
			}
			slices.Sort(boards)
			is(t, "boards "+what, two(reel.Boards(rs, fs, key)), list{boards, api.OK})
		}
		w := api.Window{From: r.Intn(20)}
		w.To = w.From + r.Intn(30)
		is(t, fmt.Sprint("used ", w, what), two(reel.Used(rs, fs, w)), list{used(all, w), api.OK})
	}
	if spliced < 300 {
		t.Error("too few boards went on with the next reel:", spliced)
	}
}

// traced is from which reels a board has its components, and how often it went on with another one.
func traced(all []taken, board string) (l []api.Origin, splices int) {
	use := -1
	for _, c := range all {
		if c.board != board {
			continue
		}
		if last := len(l) - 1; c.use == use && l[last].Reel == c.reel {
			l[last].Many++
			continue
		}
		if c.use == use {
			splices++
		}
		use = c.use
		l = append(l, api.Origin{Feeder: c.feeder, Reel: c.reel, Many: 1})
	}
	return l, splices
}

// used is how many components were taken from each feeder in a window.
func used(all []taken, w api.Window) []api.Pair {
	var l []api.Pair
	for _, feeder := range someFeeders {
		many := 0
		for _, c := range all {
			if c.feeder == feeder && c.at >= w.From && c.at < w.To {
				many++
			}
		}
		if many > 0 {
			l = append(l, api.Pair{Name: feeder, Value: fmt.Sprint(many)})
		}
	}
	return l
}

// TestNothingIsLost holds what follows: without counts, what reels have at first is what they have left and what
// boards took; a reel is in at most one feeder; boards have components only from reels that were in a feeder.
func TestNothingIsLost(t *testing.T) {
	r := rand.New(rand.NewSource(8))
	for range 1000 {
		rs, fs := anyReels(r), anyFeeds(r, r.Intn(40), false)
		for at := range 90 {
			in := map[string]bool{}
			for _, feeder := range someFeeders {
				l, _ := reel.Feeder(rs, fs, feeder, at)
				for _, x := range l {
					is(t, "in one feeder", in[x.Reel], false)
					in[x.Reel] = true
				}
			}
		}
		was := map[string]bool{} // a feeder and a reel that was in it
		refused, _, _ := reel.Refused(rs, fs)
		for i, f := range fs {
			if f.Reel != "" && !slices.Contains(refused, i) {
				was[f.Feeder+f.Reel] = true
			}
		}
		gone := map[string]int{}
		for _, board := range someBoards {
			l, _ := reel.Trace(rs, fs, board)
			for _, o := range l {
				gone[o.Reel] += o.Many
				is(t, "was in the feeder", was[o.Feeder+o.Reel], true)
			}
		}
		for _, x := range rs {
			left, e := reel.Left(rs, fs, x.Key, api.End-1)
			is(t, "together", list{left + gone[x.Key], e}, list{x.Many, api.OK})
		}
	}
}
