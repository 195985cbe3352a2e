package reel_test

import (
	"fmt"
	"math"
	"math/rand"
	"strings"
	"sync"
	"testing"

	"reelfeeder/api"
	"reelfeeder/reel"
)

// arguments are those of all functions.
type arguments struct {
	r                  []api.Reel
	f                  []api.Feed
	feeder, reel, unit string
	at, each           int
	want               []api.Pair
	w                  api.Window
}

// everything is what all functions return for some arguments, as a string.
func everything(a arguments) string {
	var s strings.Builder
	add := func(v ...any) { fmt.Fprintf(&s, "%+v\n", v) }
	add(reel.CheckReels(a.r), reel.CheckFeeds(a.r, a.f))
	add(three(reel.Refused(a.r, a.f)))
	add(two(reel.Feeder(a.r, a.f, a.feeder, a.at)))
	add(two(reel.Left(a.r, a.f, a.reel, a.at)))
	add(three(reel.Where(a.r, a.f, a.reel, a.at)))
	add(two(reel.Trace(a.r, a.f, a.unit)))
	add(two(reel.Boards(a.r, a.f, a.reel)))
	add(two(reel.Used(a.r, a.f, a.w)))
	add(two(reel.Lasts(a.r, a.f, a.feeder, a.at, a.each)))
	add(two(reel.Wrong(a.r, a.f, a.at, a.want)))
	add(two(reel.Idle(a.r, a.f, a.at)))
	add(two(reel.Splices(a.r, a.f, a.unit)))
	text, e := reel.Text(a.f)
	add(text, e)
	add(three(reel.Read(text)))
	return s.String()
}

// usual are arguments for which every list has an element.
func usual() arguments {
	return arguments{
		r: reels(usualReels), f: feeds(usualFeeds), feeder: "f", reel: "b", unit: "u", at: 1, each: 4,
		want: pairs("f q, g p, h p"), w: api.Window{From: 2, To: 10},
	}
}

// hidden is a copy of a list with memory after its length.
func hidden[T any](l []T, after T) []T { return append(append([]T{}, l...), after)[:len(l)] }

// TestArguments holds Z2 (arguments are not changed, and memory after their length is neither read nor written) and Z7.
func TestArguments(t *testing.T) {
	want := everything(usual())
	badReel, badFeed, badPair := api.Reel{Many: -1}, api.Feed{At: -1}, api.Pair{Name: "A"}
	a := usual()
	a.r, a.f, a.want = hidden(a.r, badReel), hidden(a.f, badFeed), hidden(a.want, badPair)
	before := fmt.Sprintf("%+v", a)
	for range 20 {
		is(t, "with hidden memory", everything(a), want)
	}
	is(t, "arguments", fmt.Sprintf("%+v", a), before)
	is(t, "hidden", list{a.r[:5][4], a.f[:14][13], a.want[:4][3]}, list{badReel, badFeed, badPair})
}

// TestResults holds Z2: results are new memory.
func TestResults(t *testing.T) {
	a := usual()
	want := everything(usual())
	indices, why, _ := reel.Refused(a.r, a.f)
	in, _ := reel.Feeder(a.r, a.f, a.feeder, a.at)
	trace, _ := reel.Trace(a.r, a.f, a.unit)
	boards, _ := reel.Boards(a.r, a.f, a.reel)
	used, _ := reel.Used(a.r, a.f, a.w)
	wrong, _ := reel.Wrong(a.r, a.f, a.at, a.want)
	idle, _ := reel.Idle(a.r, a.f, a.at)
	read, _, _ := reel.Read("0 load f a\n")
	indices[0], why[0], in[0].Left, trace[0].Many, used[0].Value, read[0].Reel = 9, 9, 9, 9, "9", "x"
	for _, l := range [][]string{boards, wrong, idle} {
		l[0] = "x"
	}
	is(t, "argument", list{a.r, a.f, a.want}, list{usual().r, usual().f, usual().want})
	is(t, "all", everything(a), want)
}

// TestGoroutines holds Z1: any number of goroutines at once.
func TestGoroutines(t *testing.T) {
	want := everything(usual())
	a := usual()
	var wait sync.WaitGroup
	for range 8 {
		wait.Go(func() {
			for range 50 {
				if everything(a) != want {
					t.Error("another result in a goroutine")
				}
			}
		})
	}
	wait.Wait()
}

// odd are numbers of which few are good for anything.
var odd = []int{0, 1, 2, -1, 5, 6, api.MaxOnReel, api.MaxOnReel + 1, api.End - 1, api.End, math.MaxInt, math.MinInt}

// TestAnything holds Z1, Z6 and Z10: no arguments lead to a panic, and what is written is read again.
func TestAnything(t *testing.T) {
	r := rand.New(rand.NewSource(9))
	often := 100
	number := func(n *int) {
		if r.Intn(often) == 0 {
			*n = odd[r.Intn(len(odd))]
		}
	}
	name := func(s *string) {
		if r.Intn(often) == 0 {
			*s = badKeys[r.Intn(len(badKeys))]
		}
	}
	accepted := 0
	for range 5000 {
		a := arguments{r: anyReels(r), f: anyFeeds(r, r.Intn(20), true), feeder: "f", reel: "a", unit: "u", at: r.Intn(20), each: 1 + r.Intn(4), want: pairs("f p, g q")}
		for i := range a.r {
			name(&a.r[i].Key)
			name(&a.r[i].Part)
			number(&a.r[i].Many)
		}
		for i := range a.f {
			f := &a.f[i]
			for _, s := range []*string{&f.Feeder, &f.Reel, &f.Board} {
				name(s)
			}
			for _, n := range []*int{&f.At, &f.Kind, &f.Many} {
				number(n)
			}
		}
		for _, s := range []*string{&a.feeder, &a.reel, &a.unit, &a.want[0].Name, &a.want[1].Value} {
			name(s)
		}
		for _, n := range []*int{&a.at, &a.each, &a.w.From, &a.w.To} {
			number(n)
		}
		everything(a)
		if reel.CheckFeeds(a.r, a.f) == api.OK {
			accepted++
			text, e := reel.Text(a.f)
			is(t, "text", e, api.OK)
			is(t, "read", three(reel.Read(text)), list{a.f, 0, api.OK})
		}
	}
	if accepted < 1000 {
		t.Error("too few events are accepted:", accepted)
	}
}

// TestLargeArguments holds Z1: arguments as large as they can be are refused soon.
func TestLargeArguments(t *testing.T) {
	const large = 200_000
	name := strings.Repeat("k", large)
	a := arguments{r: make([]api.Reel, large), f: make([]api.Feed, large), feeder: name, reel: name, unit: name, at: large, each: large, want: make([]api.Pair, large)}
	everything(a)
	a.r = reels("a p 1")
	everything(a)
	a.f = []api.Feed{{Kind: api.FeedLoad, Feeder: "f", Reel: name}}
	everything(a)
	a.f = nil
	everything(a)
}

// FuzzRead holds Z10: what is read is what is written, and nothing else is accepted.
func FuzzRead(f *testing.F) {
	for _, s := range []string{"", "0 load f a\n1 splice f b\n2 unload f\n3 use f 7 u\n4 count a 5\n", "-1 use f -7 u\n", "0 count a -0\n", "0 unload f", "0 unload F\n", "0 unload f g\n", "01 unload f\n"} {
		f.Add(s)
	}
	f.Fuzz(func(t *testing.T, s string) {
		made, line, e := reel.Read(s)
		if e != api.OK {
			is(t, "value", made, []api.Feed{})
			if e != api.ErrSyntax && line != 0 {
				t.Error("a line without ErrSyntax:", line)
			}
			return
		}
		text, e := reel.Text(made)
		is(t, "text", list{text, line, e}, list{s, 0, api.OK})
	})
}
