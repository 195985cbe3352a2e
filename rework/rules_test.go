package rework_test

import (
	"fmt"
	"math"
	"math/rand"
	"slices"
	"strings"
	"sync"
	"testing"

	"reelfeeder/api"
	"reelfeeder/rework"
)

// arguments are those of all functions.
type arguments struct {
	r         api.Rules
	s         []api.Step
	board     string
	at, state int
	w         []api.Work
	minutes   int
}

// everything is what all functions return for some arguments, as a string.
func everything(a arguments) string {
	var s strings.Builder
	add := func(v ...any) { fmt.Fprintf(&s, "%+v\n", v) }
	add(rework.CheckRules(a.r), rework.CheckSteps(a.s))
	add(three(rework.Refused(a.r, a.s)))
	add(two(rework.At(a.r, a.s, a.board, a.at)))
	add(two(rework.Boards(a.r, a.s, a.at, a.state)))
	add(two(rework.Waiting(a.r, a.s, a.at)))
	add(two(rework.Hopeless(a.r, a.s, a.at)))
	add(two(rework.Times(a.r, a.s, a.board, a.at)))
	add(three(rework.FirstPass(a.r, a.s)))
	add(three(rework.Final(a.r, a.s)))
	add(two(rework.Loops(a.r, a.s)))
	add(two(rework.Worst(a.r, a.s)))
	add(three(rework.Choose(a.w, a.minutes)))
	text, e := rework.Text(a.s)
	add(text, e)
	add(three(rework.Read(text)))
	return s.String()
}

// usual are arguments for which every list has an element.
func usual() arguments {
	return arguments{
		r: rules(3, 1), board: "u", at: 20, state: api.BoardFailed,
		s: steps("1 u reflow, 2 u fail r, 3 u repair r, 4 u fail r, 5 u fail a, 6 u repair r, 7 v reflow, 8 v pass, 9 v ship, 9 x scrap, 10 w reflow, 11 w fail c"),
		w: works("30 60, 20 40, 20 40"), minutes: 45,
	}
}

// TestArguments holds Z2 (arguments are not changed, and memory after their length is neither read nor written) and Z7.
func TestArguments(t *testing.T) {
	want := everything(usual())
	a := usual()
	step, work := api.Step{At: -1}, api.Work{Minutes: -1}
	a.s = append(slices.Clone(a.s), step)[:len(a.s)]
	a.w = append(slices.Clone(a.w), work)[:len(a.w)]
	before := fmt.Sprintf("%+v", a)
	for range 20 {
		is(t, "with hidden memory", everything(a), want)
	}
	is(t, "arguments", fmt.Sprintf("%+v", a), before)
	is(t, "hidden", list{a.s[:len(a.s)+1][len(a.s)], a.w[:len(a.w)+1][len(a.w)]}, list{step, work})
}

// TestResults holds Z2: results are new memory.
func TestResults(t *testing.T) {
	a := usual()
	want := everything(usual())
	refused, why, _ := rework.Refused(a.r, a.s)
	condition, _ := rework.At(a.r, a.s, a.board, a.at)
	boards, _ := rework.Boards(a.r, a.s, a.at, a.state)
	waiting, _ := rework.Waiting(a.r, a.s, a.at)
	hopeless, _ := rework.Hopeless(a.r, a.s, a.at)
	times, _ := rework.Times(a.r, a.s, a.board, a.at)
	loops, _ := rework.Loops(a.r, a.s)
	worst, _ := rework.Worst(a.r, a.s)
	chosen, _, _ := rework.Choose(a.w, a.minutes)
	text, _ := rework.Text(a.s)
	read, _, _ := rework.Read(text)
	refused[0], why[0], times[0], chosen[0] = -1, -1, -1, -1
	condition.Open[0], boards[0], waiting[0], hopeless[0] = "x", "x", "x", "x"
	loops[0].Name, worst[0].Name, read[0].Board = "x", "x", "x"
	is(t, "argument", list{a.s, a.w}, list{usual().s, usual().w})
	is(t, "all", everything(a), want)
}

// TestGoroutines holds Z1: any number of goroutines at once.
func TestGoroutines(t *testing.T) {
	want := everything(usual())
	a := usual()
	var wait sync.WaitGroup
	for range 8 {
		wait.Go(func() {
			for range 50 {
				if everything(a) != want {
					t.Error("another result in a goroutine")
				}
			}
		})
	}
	wait.Wait()
}

// odd are numbers of which few are good for anything.
var odd = []int{0, 1, 2, -1, 5, 6, 7, api.MaxHeats, api.MaxHeats + 1, api.MaxMinutes, api.MaxMinutes + 1, api.End - 1, api.End, math.MaxInt, math.MinInt}

// TestAnything holds Z1, Z6 and Z10: no arguments lead to a panic, and what is written is read again.
func TestAnything(t *testing.T) {
	r := rand.New(rand.NewSource(5))
	number := func(n *int) {
		if r.Intn(100) == 0 {
			*n = odd[r.Intn(len(odd))]
		}
	}
	name := func(s *string) {
		if r.Intn(100) == 0 {
			*s = badKeys[r.Intn(len(badKeys))]
		}
	}
	accepted := 0
	for range 5000 {
		a := usual()
		a.r, a.s, a.board = anyRules(r), anySteps(r, r.Intn(20)), "b"
		for i := range a.s {
			name(&a.s[i].Board)
			name(&a.s[i].Component)
			number(&a.s[i].At)
			number(&a.s[i].Kind)
		}
		for i := range a.w {
			name(&a.w[i].Board)
			number(&a.w[i].Minutes)
			number(&a.w[i].Value)
		}
		name(&a.board)
		for _, n := range []*int{&a.r.Heats, &a.r.Repairs, &a.at, &a.state, &a.minutes} {
			number(n)
		}
		everything(a)
		if rework.CheckSteps(a.s) == api.OK {
			accepted++
			text, e := rework.Text(a.s)
			is(t, "text", e, api.OK)
			is(t, "read", three(rework.Read(text)), list{a.s, 0, api.OK})
		}
	}
	if accepted < 1000 {
		t.Error("too few steps are accepted:", accepted)
	}
}

// TestLargeArguments holds Z1: arguments as large as they can be are done, or refused, soon.
func TestLargeArguments(t *testing.T) {
	const large = 200_000
	name := strings.Repeat("k", large)
	everything(arguments{s: make([]api.Step, large), board: name, at: large, state: large, w: make([]api.Work, large), minutes: large})
	everything(arguments{s: []api.Step{{Board: "u", Kind: api.StepFail, Component: name}}, w: []api.Work{{Board: name}}})
	a := usual()
	a.s = steps("0 u reflow")
	for i := 1; i < api.MaxSteps; i++ { // all of them in one board
		a.s = append(a.s, api.Step{Board: "u", Kind: api.StepFail, Component: fmt.Sprint("r", i)})
	}
	everything(a)
	for i := range a.s { // in as many boards as there can be
		a.s[i] = api.Step{Board: fmt.Sprint("u", i/2), Kind: api.StepReflow}
		if i%2 == 1 {
			a.s[i].Kind, a.s[i].Component = api.StepFail, "r"
		}
	}
	everything(a)
	waiting, e := rework.Waiting(a.r, a.s, 0)
	is(t, "waiting", list{len(waiting), e}, list{api.MaxSteps / 2, api.OK})
}

// FuzzRead holds Z10: what is read is what is written, and nothing else is accepted.
func FuzzRead(f *testing.F) {
	for _, s := range []string{"", "1 u reflow\n2 u fail r1\n3 u repair r1\n4 u pass\n5 u ship\n5 v scrap\n", "-1 u reflow\n", "01 u reflow\n", "1 u reflow", "1 u reflow r1\n", "1 u fail\n", "1 U pass\n", "2 u pass\n1 u pass\n"} {
		f.Add(s)
	}
	f.Fuzz(func(t *testing.T, s string) {
		made, line, e := rework.Read(s)
		if e != api.OK {
			is(t, "value", made, steps(""))
			if e != api.ErrSyntax && line != 0 {
				t.Error("a line without ErrSyntax:", line)
			}
			return
		}
		text, e := rework.Text(made)
		is(t, "text", list{text, line, e}, list{s, 0, api.OK})
	})
}
