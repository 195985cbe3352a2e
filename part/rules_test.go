package part_test

import (
	"fmt"
	"math"
	"math/rand"
	"strings"
	"sync"
	"testing"

	"reelfeeder/api"
	"reelfeeder/part"
)

// everything is what all functions return for some arguments, as a string.
func everything(c api.Catalogue, a, b string, need, have []api.Pair, p api.Part, l []api.Stay, w api.Window) string {
	var s strings.Builder
	add := func(v ...any) { fmt.Fprintf(&s, "%+v\n", v) }
	add(part.CheckCatalogue(c), part.CheckStays(l))
	add(two(part.Direct(c, a)))
	add(two(part.All(c, a)))
	add(three(part.Chain(c, a, b)))
	add(two(part.Groups(c)))
	add(two(part.Odd(c)))
	add(three(part.Short(c, need, have)))
	add(three(part.Life(p.Level)))
	add(two(part.Exposed(p, l, w.To)))
	add(three(part.Left(p, l, w.From)))
	add(two(part.Usable(p, l, w)))
	add(three(part.Expires(p, l)))
	text, e := part.Text(c)
	add(text, e)
	add(three(part.Read(text)))
	return s.String()
}

// usual are arguments that have a value everywhere.
func usual() (api.Catalogue, string, string, []api.Pair, []api.Pair, api.Part, []api.Stay, api.Window) {
	return stock(), "a", "d", pairs("a=3 b=2"), pairs("a=1 b=3 c=4"), level(4), stays("f0 c10h"), api.Window{From: 5, To: 70 * hour}
}

// hidden is a copy of a list with memory after its length.
func hidden[T any](l []T, after T) []T { return append(append([]T{}, l...), after)[:len(l)] }

// TestArguments holds Z2 (arguments are not changed, and memory after their length is neither read nor written) and Z7.
func TestArguments(t *testing.T) {
	want := everything(usual())
	c, a, b, need, have, p, l, w := usual()
	badPart, badAlternate, badPair, badStay := api.Part{Level: -1}, api.Alternate{For: "x"}, api.Pair{Value: "x"}, api.Stay{From: -1}
	c.Parts, c.Alternates = hidden(c.Parts, badPart), hidden(c.Alternates, badAlternate)
	need, have, l = hidden(need, badPair), hidden(have, badPair), hidden(l, badStay)
	before := fmt.Sprintf("%+v", list{c, need, have, l})
	is(t, "with hidden memory", everything(c, a, b, need, have, p, l, w), want)
	is(t, "again", everything(c, a, b, need, have, p, l, w), want)
	is(t, "arguments", fmt.Sprintf("%+v", list{c, need, have, l}), before)
	is(t, "hidden", list{c.Parts[:5][4], c.Alternates[:4][3], need[:3][2], have[:4][3], l[:3][2]}, list{badPart, badAlternate, badPair, badPair, badStay})
}

// TestResults holds Z2: results are new memory.
func TestResults(t *testing.T) {
	c := stock()
	want := everything(usual())
	direct, _ := part.Direct(c, "c")
	all, _ := part.All(c, "a")
	chain, _, _ := part.Chain(c, "a", "d")
	short, _, _ := part.Short(c, pairs("a=3"), nil)
	groups, _ := part.Groups(ways("abcd", "ab+", "cd+"))
	for _, l := range append(groups, direct, all, chain, short) {
		_ = append(l, "more")
		l[0] = "changed"
	}
	is(t, "groups", groups, "[[changed b] [changed d]]")
	odd, _ := part.Odd(c)
	odd[0].Name = "changed"
	read, _, _ := part.Read(stockText)
	read.Parts[0].Key, read.Alternates[0].By = "changed", "changed"
	is(t, "argument", c, stock())
	is(t, "all", everything(usual()), want)
}

// TestGoroutines holds Z1: any number of goroutines at once.
func TestGoroutines(t *testing.T) {
	want := everything(usual())
	c, a, b, need, have, p, l, w := usual()
	var wait sync.WaitGroup
	for range 8 {
		wait.Go(func() {
			for range 50 {
				if everything(c, a, b, need, have, p, l, w) != want {
					t.Error("another result in a goroutine")
				}
			}
		})
	}
	wait.Wait()
}

// TestAnything holds Z1 and Z6: no arguments lead to a panic, and whatever is accepted can be used.
func TestAnything(t *testing.T) {
	r := rand.New(rand.NewSource(5))
	often := 20
	number := func(usual int) int {
		odd := []int{0, 1, -1, 6, 7, api.MaxBake, api.MaxBake + 1, api.End - 1, api.End, math.MaxInt, math.MinInt}
		if r.Intn(often) == 0 {
			return odd[r.Intn(len(odd))]
		}
		return usual
	}
	name := func(usual string) string {
		odd := []string{"", "\xff", "A", "c", " ", "z", "-0", "7", long + "k"}
		if r.Intn(often) == 0 {
			return odd[r.Intn(len(odd))]
		}
		return usual
	}
	accepted := 0
	for range 10_000 {
		c := anyCatalogue(r)
		for i := range c.Parts {
			p := &c.Parts[i]
			p.Key, p.Level, p.Bake = name(p.Key), number(1+r.Intn(6)), number(r.Intn(9)*hour)
		}
		for i := range c.Alternates {
			a := &c.Alternates[i]
			a.For, a.By, a.Both = name(a.For), name(a.By), a.Both != (r.Intn(often) == 0)
		}
		var lists [2][]api.Pair
		for i := range lists {
			for _, p := range c.Parts {
				lists[i] = append(lists[i], api.Pair{Name: name(p.Key), Value: name(fmt.Sprint(number(r.Intn(5))))})
			}
		}
		l := anyStays(r, hour)
		for i := range l {
			l[i].Place, l[i].From = number(l[i].Place), number(l[i].From)
		}
		from := number(r.Intn(300) * hour)
		everything(c, name("a"), name("b"), lists[0], lists[1], c.Parts[0], l, api.Window{From: from, To: number(from + r.Intn(hour))})
		if part.CheckCatalogue(c) == api.OK {
			accepted++
			text, _ := part.Text(c)
			is(t, "read", three(part.Read(text)), list{c, 0, api.OK})
		}
	}
	if accepted < 1000 {
		t.Error("too few catalogues are accepted:", accepted)
	}
}

// FuzzRead holds Z10: what is read is what is written, and nothing else is accepted.
func FuzzRead(f *testing.F) {
	for _, s := range []string{"", stockText, "part a q 1 0\n", "part a q 1 0\npart b q 6 7\nuse b for a\nuse a for b\n", "part a q 1 -0\n", "both b for a\n", "use b for a\npart"} {
		f.Add(s)
	}
	f.Fuzz(func(t *testing.T, s string) {
		c, line, e := part.Read(s)
		if e != api.OK {
			is(t, "value", c, api.Catalogue{})
			if e != api.ErrSyntax && line != 0 {
				t.Error("a line without ErrSyntax:", line)
			}
			return
		}
		text, e := part.Text(c)
		is(t, "text", list{text, line, e}, list{s, 0, api.OK})
	})
}
