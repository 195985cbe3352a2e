package inspect_test

import (
	"fmt"
	"math"
	"math/rand"
	"slices"
	"strings"
	"sync"
	"testing"

	"reelfeeder/api"
	"reelfeeder/inspect"
)

// arguments are those of all functions.
type arguments struct {
	l, other                 []api.Look
	least, long, split, step int
	reel                     string
}

// everything is what all functions return for some arguments, as a string.
func everything(a arguments) string {
	var s strings.Builder
	add := func(v ...any) { fmt.Fprintf(&s, "%+v\n", v) }
	add(inspect.CheckLooks(a.l))
	add(two(inspect.Merge(a.l, a.other)))
	add(two(inspect.Counts(a.l)))
	add(two(inspect.Million(a.l)))
	add(two(inspect.FalseCalls(a.l)))
	add(two(inspect.Escapes(a.l)))
	add(two(inspect.GoodBoards(a.l)))
	add(two(inspect.Positions(a.l, a.least)))
	add(two(inspect.Rows(a.l, a.long)))
	add(two(inspect.ByMachine(a.l)))
	add(four(inspect.Suspect(a.l, a.least)))
	add(two(inspect.Worse(a.l, a.split, a.reel)))
	add(two(inspect.Trend(a.l, a.step)))
	text, e := inspect.Text(a.l)
	add(text, e)
	add(three(inspect.Read(text)))
	return s.String()
}

// usual are arguments for which every list has an element.
func usual() arguments {
	l := looks("1 a c defect m1 n1 r1, 1 a d good m1 n2 r2, 3 b c escape m1 n1 r1, 4 b d false m2 n2 r1, 6 e f good m2 n1 r2, 7 d f good m1 n1 r2")
	return arguments{l: l, other: looks("2 z c good m n r, 3 b c escape m1 n1 r1"), least: 1, long: 1, split: 3, step: 2, reel: "r1"}
}

// hidden is a copy of a list with memory after its length.
func hidden(l []api.Look, after api.Look) []api.Look {
	return append(slices.Clone(l), after)[:len(l)]
}

// TestArguments holds Z2 (arguments are not changed, and memory after their length is neither read nor written) and Z7.
func TestArguments(t *testing.T) {
	want := everything(usual())
	bad := api.Look{At: -1}
	a := usual()
	a.l, a.other = hidden(a.l, bad), hidden(a.other, bad)
	before := fmt.Sprintf("%+v", a)
	for range 20 {
		is(t, "with hidden memory", everything(a), want)
	}
	is(t, "arguments", fmt.Sprintf("%+v", a), before)
	is(t, "hidden", list{a.l[:7][6], a.other[:3][2]}, list{bad, bad})
}

// TestResults holds Z2: results are new memory.
func TestResults(t *testing.T) {
	a := usual()
	want := everything(usual())
	text, _ := inspect.Text(a.l)
	for _, merge := range [][2][]api.Look{{a.l, a.other}, {a.l, nil}, {nil, a.l}, {a.l, a.l}} {
		merged, _ := inspect.Merge(merge[0], merge[1])
		merged[0].Board = "x"
	}
	for _, f := range []func([]api.Look) ([]api.Pair, api.Errno){
		inspect.Counts, inspect.Escapes, inspect.ByMachine,
		func(l []api.Look) ([]api.Pair, api.Errno) { return inspect.Rows(l, a.long) },
	} {
		pairs, _ := f(a.l)
		pairs[0].Value = "x"
	}
	boards, _ := inspect.GoodBoards(a.l)
	positions, _ := inspect.Positions(a.l, a.least)
	trend, _ := inspect.Trend(a.l, a.step)
	read, _, _ := inspect.Read(text)
	boards[0], positions[0], trend[0], read[0].Board = "x", "x", 9, "x"
	is(t, "argument", list{a.l, a.other}, list{usual().l, usual().other})
	is(t, "all", everything(a), want)
}

// TestGoroutines holds Z1: any number of goroutines at once.
func TestGoroutines(t *testing.T) {
	want := everything(usual())
	a := usual()
	var wait sync.WaitGroup
	for range 8 {
		wait.Go(func() {
			for range 50 {
				if everything(a) != want {
					t.Error("another result in a goroutine")
				}
			}
		})
	}
	wait.Wait()
}

// odd are numbers of which few are good for anything.
var odd = []int{0, 1, 2, -1, 5, 6, api.MaxLooks, api.MaxLooks + 1, api.DayLong, api.DayLong + 1, api.End - 1, api.End, math.MaxInt, math.MinInt}

// TestAnything holds Z1, Z6 and Z10: no arguments lead to a panic, and what is written is read again.
func TestAnything(t *testing.T) {
	r := rand.New(rand.NewSource(6))
	accepted := 0
	for range 5000 {
		a := arguments{l: anyLooks(r), other: anyLooks(r), least: 1 + r.Intn(3), long: 1, split: r.Intn(12), step: 1 + r.Intn(4), reel: "x1"}
		number := func(n *int) {
			if r.Intn(50) == 0 {
				*n = odd[r.Intn(len(odd))]
			}
		}
		for i := range a.l {
			for _, s := range fields(&a.l[i]) {
				if r.Intn(200) == 0 {
					*s = badKeys[r.Intn(len(badKeys))]
				}
			}
			number(&a.l[i].At)
			number(&a.l[i].Verdict)
		}
		for _, n := range []*int{&a.least, &a.long, &a.split, &a.step} {
			number(n)
		}
		everything(a)
		if inspect.CheckLooks(a.l) == api.OK {
			accepted++
			text, e := inspect.Text(a.l)
			is(t, "text", e, api.OK)
			is(t, "read", three(inspect.Read(text)), list{a.l, 0, api.OK})
		}
	}
	if accepted < 1000 {
		t.Error("too few looks are accepted:", accepted)
	}
}

// TestLargeArguments holds Z1: arguments as large as they can be are done, or refused, soon.
func TestLargeArguments(t *testing.T) {
	const large = 200_000
	name := strings.Repeat("k", large)
	everything(arguments{l: make([]api.Look, large), other: make([]api.Look, large), least: large, long: large, split: large, step: large, reel: name})
	everything(arguments{l: changed(looks("1 a c good"), 0, func(k *api.Look) { k.Reel = name })})
	a := usual()
	a.l, a.other, a.reel = many(api.MaxLooks), many(api.MaxLooks), name
	for i := range a.l {
		k := &a.l[i]
		k.Name, k.Machine, k.Nozzle, k.Reel, k.Bad = k.Board, k.Board, k.Board, k.Board, i%2 == 0
	}
	everything(a)
}

// FuzzRead holds Z10: what is read is what is written, and nothing else is accepted.
func FuzzRead(f *testing.F) {
	for _, s := range []string{"", "1 b c good fine m n r\n2 b d soldered bad m n r\n", "-1 b c good fine m n r\n", "01 b c good fine m n r\n", "1 b c turned fine m n r", "1 B c missing bad m n r\n", "2 b d shifted bad m n r\n1 b c good fine m n r\n"} {
		f.Add(s)
	}
	f.Fuzz(func(t *testing.T, s string) {
		made, line, e := inspect.Read(s)
		if e != api.OK {
			is(t, "value", made, looks(""))
			if e != api.ErrSyntax && line != 0 {
				t.Error("a line without ErrSyntax:", line)
			}
			return
		}
		text, e := inspect.Text(made)
		is(t, "text", list{text, line, e}, list{s, 0, api.OK})
	})
}
