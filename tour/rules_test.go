package tour_test

import (
	"fmt"
	"math"
	"math/rand"
	"slices"
	"strings"
	"sync"
	"testing"

	"reelfeeder/api"
	"reelfeeder/tour"
)

// arguments are those of all functions.
type arguments struct {
	start   api.Point
	p       []api.Point
	order   []int
	most    int
	nozzles int
	kinds   []string
	slots   []int
}

// everything is what all functions return for some arguments, as a string.
func everything(a arguments) string {
	var all strings.Builder
	add := func(v ...any) { fmt.Fprintln(&all, v...) }
	add(tour.CheckPoints(a.p, a.most))
	for _, p := range a.p {
		add(two(tour.Distance(a.start, p)))
	}
	add(two(tour.Length(a.start, a.p, a.order)))
	add(three(tour.Shortest(a.start, a.p)))
	add(three(tour.Nearest(a.start, a.p)))
	add(three(tour.Improved(a.start, a.p, a.order)))
	add(three(tour.Cycles(a.start, a.p, a.nozzles)))
	add(two(tour.Changes(a.kinds, a.nozzles)))
	add(two(tour.Held(a.kinds, a.nozzles)))
	add(three(tour.Strokes(a.slots)))
	add(two(tour.Spread(a.slots)))
	text, e := tour.Text(a.p)
	add(text, e)
	add(three(tour.Read(text)))
	return all.String()
}

// usual are arguments that have a value everywhere.
func usual() arguments {
	return arguments{
		start: point("1 1"), p: points("10 0, 1 1, 5 2, 9 9, 0 7"), order: []int{4, 1, 0, 3, 2}, most: 5,
		nozzles: 2, kinds: strings.Fields("a b a c a b d c"), slots: []int{9, 3, 5, 4, 11},
	}
}

// hidden is a copy of a list with memory after its length.
func hidden[T any](l []T, after T) []T { return append(append([]T{}, l...), after)[:len(l)] }

// TestArguments holds Z2 (arguments are not changed, and memory after their length is neither read nor written) and Z7.
func TestArguments(t *testing.T) {
	want := everything(usual())
	a := usual()
	a.p, a.order, a.kinds, a.slots = hidden(a.p, outside[0]), hidden(a.order, 7), hidden(a.kinds, "A"), hidden(a.slots, -1)
	before := fmt.Sprint(a)
	for range 20 {
		is(t, "with hidden memory", everything(a), want)
	}
	is(t, "arguments", fmt.Sprint(a), before)
	is(t, "hidden", list{a.p[:6][5], a.order[:6][5], a.kinds[:9][8], a.slots[:6][5]}, list{outside[0], 7, "A", -1})
}

// TestResults holds Z2: results are new memory, also one from the other.
func TestResults(t *testing.T) {
	a := usual()
	want := everything(usual())
	shortest, _, _ := tour.Shortest(a.start, a.p)
	near, _, _ := tour.Nearest(a.start, a.p)
	improved, _, _ := tour.Improved(a.start, a.p, a.order)
	nozzles, _, _ := tour.Strokes(a.slots)
	read, _, _ := tour.Read("1 1\n2 2\n")
	for _, l := range [][]int{shortest, near, improved, nozzles} {
		l[0] = 9
	}
	read[0].X = 9
	same, _, _ := tour.Improved(point("0 0"), points("1 0, 2 0"), a.order[:0:0])
	is(t, "error", same, []int{})
	order := []int{0, 1}
	same, _, _ = tour.Improved(point("0 0"), points("1 0, 2 0"), order)
	same[0] = 9
	is(t, "order", order, []int{0, 1})
	held, _ := tour.Held(strings.Fields("a b a b"), 2)
	for _, l := range held {
		_ = append(l, "more")
		l[0] = "x"
	}
	is(t, "held", held, kinds("x|x b|x b|x b"))
	cycles, _, _ := tour.Cycles(point("0 0"), points("9 0, -9 0, 9 0, -9 0"), 2)
	for _, l := range cycles {
		_ = append(l, 9)
		l[0] = 7
	}
	is(t, "cycles", cycles, [][]int{{7, 2}, {7, 3}})
	is(t, "all", everything(a), want)
}

// TestGoroutines holds Z1: any number of goroutines at once.
func TestGoroutines(t *testing.T) {
	want := everything(usual())
	a := usual()
	var wait sync.WaitGroup
	for range 8 {
		wait.Go(func() {
			for range 50 {
				if everything(a) != want {
					t.Error("another result in a goroutine")
				}
			}
		})
	}
	wait.Wait()
}

// spoil puts odd values into a list, seldom.
func spoil[T any](r *rand.Rand, l []T, odd ...T) {
	for i := range l {
		if r.Intn(40) == 0 {
			l[i] = odd[r.Intn(len(odd))]
		}
	}
}

// TestAnything holds Z1 and Z6: no arguments lead to a panic, and whatever is accepted can be used.
func TestAnything(t *testing.T) {
	r := rand.New(rand.NewSource(12))
	numbers := []int{0, 1, 2, -1, 8, 9, 1000, 1001, math.MaxInt, math.MinInt}
	accepted := 0
	for range 5000 {
		a := arguments{p: anyPoints(r, r.Intn(12), most), most: numbers[r.Intn(len(numbers))], nozzles: r.Intn(6)}
		a.order = r.Perm(len(a.p))
		for range r.Intn(12) {
			a.kinds = append(a.kinds, string(rune('a'+r.Intn(5))))
			a.slots = append(a.slots, r.Intn(20))
		}
		a.start = anyPoints(r, 1, most)[0]
		if r.Intn(10) == 0 {
			a.start = outside[r.Intn(len(outside))]
			a.nozzles = a.most
		}
		spoil(r, a.p, outside...)
		spoil(r, a.order, numbers...)
		spoil(r, a.slots, numbers...)
		spoil(r, a.kinds, "", "\xff", "A", " ", "-", "7", "a b", "a\n")
		everything(a)
		if tour.CheckPoints(a.p, api.MaxLong) == api.OK {
			accepted++
			text, e := tour.Text(a.p)
			is(t, "text", e, api.OK)
			is(t, "read", three(tour.Read(text)), list{a.p, 0, api.OK})
		}
	}
	if accepted < 1000 {
		t.Error("too few points are accepted:", accepted)
	}
}

// TestLargeArguments holds Z1: arguments as large as they can be are refused soon.
func TestLargeArguments(t *testing.T) {
	const large = 200_000
	a := arguments{p: make([]api.Point, large), order: make([]int, large), most: large, nozzles: 8, kinds: slices.Repeat([]string{"a"}, large), slots: make([]int, large)}
	is(t, "points", tour.CheckPoints(a.p, a.most), api.OK)
	is(t, "length", two(tour.Length(a.start, a.p, a.order)), list{0, api.ErrLarge})
	is(t, "changes", two(tour.Changes(a.kinds, a.nozzles)), list{0, api.ErrLarge})
	everything(a)
}

// FuzzRead holds Z10: what is read is what is written, and nothing else is accepted.
func FuzzRead(f *testing.F) {
	for _, s := range []string{"", "1 -2\n", "10 0\n1 1\n5 2\n", "500000 -500000\n", "500001 0\n", "-0 1\n", "1  1\n", "1 1", "1 1 1\n"} {
		f.Add(s)
	}
	f.Fuzz(func(t *testing.T, s string) {
		p, line, e := tour.Read(s)
		if e != api.OK {
			is(t, "value", p, []api.Point{})
			if e != api.ErrSyntax && line != 0 {
				t.Error("a line without ErrSyntax:", line)
			}
			return
		}
		text, e := tour.Text(p)
		is(t, "text", list{text, line, e}, list{s, 0, api.OK})
	})
}
