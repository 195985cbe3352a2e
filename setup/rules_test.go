package setup_test

import (
	"fmt"
	"math"
	"math/rand"
	"slices"
	"strings"
	"sync"
	"testing"

	"reelfeeder/api"
	"reelfeeder/setup"
)

// everything is what all functions return for some arguments, as a string. There is at least one product.
func everything(s, b []string, number int, p [][]string) string {
	var all strings.Builder
	add := func(v ...any) { fmt.Fprintf(&all, "%q\n", v) }
	add(setup.CheckSetup(s), setup.CheckParts(number, p))
	add(two(setup.Missing(s, p[0])))
	add(two(setup.Changes(s, b)))
	add(two(setup.Loads(s, b)))
	add(two(setup.Next(s, p[0], p[1:])))
	add(two(setup.Setups(s, p)))
	add(two(setup.Total(s, p)))
	add(three(setup.Best(s, p)))
	add(three(setup.Nearest(s, p)))
	add(two(setup.Groups(number, p)))
	add(two(setup.Always(p)))
	text, e := setup.Text(s)
	add(text, e)
	add(three(setup.Read(text)))
	return all.String()
}

// usual are arguments that have a value everywhere.
func usual() ([]string, []string, int, [][]string) {
	return slots("a - d b"), slots("a c - d"), 4, products("a b c|b d e f|a b|b c g")
}

// hidden is a copy of a list with memory after its length.
func hidden[T any](l []T, after T) []T { return append(append([]T{}, l...), after)[:len(l)] }

// TestArguments holds Z2 (arguments are not changed, and memory after their length is neither read nor written) and Z7.
func TestArguments(t *testing.T) {
	want := everything(usual())
	s, b, number, p := usual()
	s, b, p = hidden(s, "A"), hidden(b, "A"), hidden(p, []string{"A"})
	for i := range p {
		p[i] = hidden(p[i], "A")
	}
	before := fmt.Sprint(s, b, p)
	for range 20 {
		is(t, "with hidden memory", everything(s, b, number, p), want)
	}
	is(t, "arguments", fmt.Sprint(s, b, p), before)
	is(t, "hidden", list{s[:5][4], b[:5][4], p[:5][4], p[0][:4][3]}, list{"A", "A", []string{"A"}, "A"})
}

// TestResults holds Z2: results are new memory, also one from the other.
func TestResults(t *testing.T) {
	s, b, number, p := usual()
	want := everything(usual())
	missing, _ := setup.Missing(s, p[0])
	changes, _ := setup.Changes(s, b)
	next, _ := setup.Next(slots("a b"), slots("a b"), nil)
	order, _, _ := setup.Best(s, p)
	near, _, _ := setup.Nearest(s, p)
	always, _ := setup.Always(p[:1])
	read, _, _ := setup.Read("a\n-\n")
	missing[0], changes[0].In, next[0], order[0], near[0], always[0], read[0] = "x", "x", "x", 9, 9, "x", "x"
	made, _ := setup.Setups(slots("a b c d"), products("|a|b c"))
	for _, l := range made {
		_ = append(l, "more")
		l[0] = "x"
	}
	is(t, "setups", made, products("x b c d|x b c d|x b c d"))
	groups, _ := setup.Groups(1, products("a|b|a|b"))
	for _, l := range groups {
		_ = append(l, 9)
		l[0] = 7
	}
	is(t, "groups", groups, [][]int{{7, 2}, {7, 3}})
	is(t, "all", everything(s, b, number, p), want)
}

// TestNextIsNew holds that a setup in which nothing changes is new memory, too.
func TestNextIsNew(t *testing.T) {
	s := slots("a b")
	made, _ := setup.Next(s, nil, nil)
	made[0] = "x"
	list, _ := setup.Setups(s, make([][]string, 2))
	list[0][0], list[1][1] = "x", "y"
	is(t, "argument", s, slots("a b"))
	is(t, "setups", list, products("x b|a y"))
}

// TestGoroutines holds Z1: any number of goroutines at once.
func TestGoroutines(t *testing.T) {
	want := everything(usual())
	s, b, number, p := usual()
	var wait sync.WaitGroup
	for range 8 {
		wait.Go(func() {
			for range 50 {
				if everything(s, b, number, p) != want {
					t.Error("another result in a goroutine")
				}
			}
		})
	}
	wait.Wait()
}

// TestAnything holds Z1 and Z6: no arguments lead to a panic, and whatever is accepted can be used.
func TestAnything(t *testing.T) {
	r := rand.New(rand.NewSource(12))
	odd := []string{"", "\xff", "A", "c", " ", "z", "-", "7", "a b", "a\n", long + "k"}
	spoil := func(l []string) {
		for i := range l {
			if r.Intn(40) == 0 {
				l[i] = odd[r.Intn(len(odd))]
			}
		}
	}
	accepted := 0
	for range 5000 {
		s, p := anyCase(r, 6, 1+r.Intn(10), 1+r.Intn(11))
		b := slices.Clone(s)
		r.Shuffle(len(b), func(i, k int) { b[i], b[k] = b[k], b[i] })
		if r.Intn(20) == 0 {
			s = s[:r.Intn(len(s)+1)]
		}
		spoil(s)
		spoil(b)
		for i := range p {
			spoil(p[i])
		}
		number := []int{len(s), 0, 1, -1, api.MaxSetup, api.MaxSetup + 1, math.MaxInt, math.MinInt}[r.Intn(8)]
		everything(s, b, number, p)
		if setup.CheckSetup(s) == api.OK {
			accepted++
			text, e := setup.Text(s)
			is(t, "text", e, api.OK)
			is(t, "read", three(setup.Read(text)), list{s, 0, api.OK})
		}
	}
	if accepted < 1000 {
		t.Error("too few setups are accepted:", accepted)
	}
}

// FuzzRead holds Z10: what is read is what is written, and nothing else is accepted.
func FuzzRead(f *testing.F) {
	for _, s := range []string{"", "a\n-\nb\n", "-\n", "a\na\n", "a b\n", "a\n\n", "A\n", "a"} {
		f.Add(s)
	}
	f.Fuzz(func(t *testing.T, s string) {
		made, line, e := setup.Read(s)
		if e != api.OK {
			is(t, "value", made, []string{})
			if e != api.ErrSyntax && line != 0 {
				t.Error("a line without ErrSyntax:", line)
			}
			return
		}
		text, e := setup.Text(made)
		is(t, "text", list{text, line, e}, list{s, 0, api.OK})
	})
}
