package rework_test

import (
	"fmt"
	"math"
	"slices"
	"strconv"
	"strings"
	"testing"

	"reelfeeder/api"
	"reelfeeder/rework"
)

type list = []any

// is compares values; a nil list is the same as an empty one.
func is(t *testing.T, what string, got, want any) {
	t.Helper()
	if g, w := fmt.Sprintf("%+v", got), fmt.Sprintf("%+v", want); g != w {
		t.Errorf("%s: got %.300s, want %.300s", what, g, w)
	}
}

// two and three are the results of a call as a list.
func two[A any](a A, e api.Errno) list           { return list{a, e} }
func three[A, B any](a A, b B, e api.Errno) list { return list{a, b, e} }

func keys(names ...string) []string { return names }

// outside are numbers that are not from 0 to most.
func outside(most int) []int { return []int{-1, most + 1, math.MinInt, math.MaxInt} }

// long is the longest key.
var long = strings.Repeat("k", api.MaxName)

// badKeys are no keys.
var badKeys = []string{"", "A", "7", "-a", "a b", "a\n", " ", "é", "\xff", long + "k"}

func number(s string) int {
	n, err := strconv.Atoi(s)
	if err != nil {
		panic(err)
	}
	return n
}

// kinds are the words of kinds, in the order of their numbers.
var kinds = []string{"", "reflow", "fail", "pass", "repair", "scrap", "ship"}

// steps are those of words: "3 u reflow, 4 u fail r1".
func steps(words string) []api.Step {
	var l []api.Step
	for _, s := range strings.Split(words, ", ") {
		w := strings.Fields(s)
		if len(w) == 0 {
			continue
		}
		kind := slices.Index(kinds, w[2])
		if kind < 0 {
			panic(s)
		}
		l = append(l, api.Step{At: number(w[0]), Board: w[1], Kind: kind, Component: strings.Join(w[3:], "")})
	}
	return l
}

// ofU are steps of board u, the first one at 1, and each other one a millisecond later: "reflow, fail r1".
func ofU(words string) []api.Step {
	var all []string
	for i, s := range strings.Split(words, ", ") {
		if s != "" {
			all = append(all, fmt.Sprint(i+1, " u ", s))
		}
	}
	return steps(strings.Join(all, ", "))
}

// pairs are those of words: "f p, g q".
func pairs(words string) []api.Pair {
	var l []api.Pair
	for _, s := range strings.Split(words, ", ") {
		if name, value, ok := strings.Cut(s, " "); ok {
			l = append(l, api.Pair{Name: name, Value: value})
		}
	}
	return l
}

// alike are so many equal steps.
func alike(many int, s api.Step) []api.Step { return slices.Repeat([]api.Step{s}, many) }

// changed are steps of which one is changed.
func changed(l []api.Step, i int, change func(*api.Step)) []api.Step {
	l = slices.Clone(l)
	change(&l[i])
	return l
}

// rules are those with so many heats, and so many repairs.
func rules(heats, repairs int) api.Rules { return api.Rules{Heats: heats, Repairs: repairs} }

// TestCheckRules holds the errors of P8.1 for rules.
func TestCheckRules(t *testing.T) {
	for _, r := range []api.Rules{{}, rules(100, 0), rules(0, 100), rules(100, 100), rules(3, 1)} {
		is(t, fmt.Sprint(r), rework.CheckRules(r), api.OK)
	}
	for _, n := range outside(100) {
		is(t, fmt.Sprint(n), rework.CheckRules(rules(n, 1)), api.ErrArg)
		is(t, fmt.Sprint(n), rework.CheckRules(rules(1, n)), api.ErrArg)
		is(t, fmt.Sprint(n), rework.CheckRules(rules(n, n)), api.ErrArg)
	}
}

// TestCheckSteps holds the errors of P8.1 for lists of steps, and their order.
func TestCheckSteps(t *testing.T) {
	one := api.Step{Board: "u", Kind: api.StepPass}
	for _, c := range []struct {
		what string
		s    []api.Step
		want api.Errno
	}{
		{"none", nil, api.OK},
		{"all kinds", ofU("reflow, fail r1, pass, repair r1, scrap, ship"), api.OK},
		{"the last moment", steps(fmt.Sprint(api.End-1, " u reflow")), api.OK},
		{"the same moment", steps("0 u reflow, 0 u reflow, 0 a pass, 0 u fail b, 0 u fail a"), api.OK},
		{"rising", steps("1 u reflow, 3 a reflow, 3 u pass, 7 a pass"), api.OK},
		{"falling", steps("1 u reflow, 0 u reflow"), api.ErrOrder},
		{"falling of other boards", steps("1 u reflow, 5 v reflow, 4 u pass"), api.ErrOrder},
		{"order before the next one", steps("2 u reflow, 1 u reflow, -1 u pass"), api.ErrOrder},
		{"the next one before its order", steps("2 u reflow, 1 U reflow"), api.ErrName},
		{"the first error", steps("2 u fail R, 1 u reflow, -1 u pass"), api.ErrName},
		{"a moment", steps("2 u reflow, -1 u pass"), api.ErrArg},
		{"as many as there can be", alike(api.MaxSteps, one), api.OK},
		{"too many", alike(api.MaxSteps+1, one), api.ErrLarge},
		{"too many before their errors", make([]api.Step, api.MaxSteps+1), api.ErrLarge},
		{"much too many", make([]api.Step, 200_000), api.ErrLarge},
	} {
		is(t, c.what, rework.CheckSteps(c.s), c.want)
	}
}

// TestCheckStep holds the errors of P8.1 for a step: what is wrong with it, and the errors that come later.
func TestCheckStep(t *testing.T) {
	check := func(want api.Errno, s api.Step) {
		t.Helper()
		is(t, fmt.Sprintf("%+.60v", s), rework.CheckSteps([]api.Step{s}), want)
		after := []api.Step{{At: api.End - 1, Board: "v", Kind: api.StepPass}, s} // out of order
		if want == api.OK && s.At < api.End-1 {
			want = api.ErrOrder
		}
		is(t, fmt.Sprintf("%+.60v, out of order", s), rework.CheckSteps(after), want)
	}
	for _, at := range outside(api.End - 1) {
		check(api.ErrArg, api.Step{At: at, Board: "u", Kind: api.StepReflow})
		check(api.ErrArg, api.Step{At: at, Board: "U", Kind: 9, Component: "C"})
	}
	for kind := api.StepReflow; kind <= api.StepShip; kind++ {
		component := ""
		if kind == api.StepFail || kind == api.StepRepair {
			component = long
			for _, key := range badKeys {
				check(api.ErrName, api.Step{Board: "u", Kind: kind, Component: key})
			}
		} else {
			for _, name := range []string{"r1", "R", " ", "\xff", long + "k"} {
				check(api.ErrForm, api.Step{Board: "u", Kind: kind, Component: name})
			}
		}
		check(api.OK, api.Step{Board: long, Kind: kind, Component: component})
		for _, key := range badKeys {
			check(api.ErrName, api.Step{Board: key, Kind: kind, Component: component})
			check(api.ErrName, api.Step{Board: key, Kind: -kind, Component: "C"})
		}
	}
	for _, kind := range []int{0, 7, -1, math.MinInt, math.MaxInt} {
		check(api.ErrKind, api.Step{Board: "u", Kind: kind})
		check(api.ErrKind, api.Step{Board: "u", Kind: kind, Component: "C"})
	}
}

// TestFirstErrors holds that functions with rules and steps return the errors of the rules, then of the steps, before
// their own ones.
func TestFirstErrors(t *testing.T) {
	check := func(r api.Rules, s []api.Step, want api.Errno) {
		t.Helper()
		is(t, "refused", three(rework.Refused(r, s)), list{[]int{}, []api.Errno{}, want})
		is(t, "at", two(rework.At(r, s, "", -1)), list{api.Condition{}, want})
		is(t, "boards", two(rework.Boards(r, s, -1, 0)), list{keys(), want})
		is(t, "waiting", two(rework.Waiting(r, s, -1)), list{keys(), want})
		is(t, "hopeless", two(rework.Hopeless(r, s, -1)), list{keys(), want})
		is(t, "times", two(rework.Times(r, s, "", -1)), list{[]int{}, want})
		is(t, "first pass", three(rework.FirstPass(r, s)), list{api.Fraction{}, false, want})
		is(t, "final", three(rework.Final(r, s)), list{api.Fraction{}, false, want})
		is(t, "loops", two(rework.Loops(r, s)), list{pairs(""), want})
		is(t, "worst", two(rework.Worst(r, s)), list{pairs(""), want})
	}
	good := "1 u reflow, 2 u fail r1, 3 u repair r1, 4 u pass, 5 u ship"
	check(rules(101, 1), steps(good), api.ErrArg)
	check(rules(1, -1), make([]api.Step, api.MaxSteps+1), api.ErrArg)
	check(rules(3, 1), make([]api.Step, api.MaxSteps+1), api.ErrLarge)
	check(rules(3, 1), steps(good+", 6 U reflow"), api.ErrName)
	check(rules(3, 1), steps(good+", 6 u reflow r1"), api.ErrForm)
	check(rules(3, 1), steps(good+", 4 u reflow"), api.ErrOrder)
	check(rules(3, 1), changed(steps(good), 4, func(s *api.Step) { s.Kind = 7 }), api.ErrKind)
	check(rules(3, 1), changed(steps(good), 4, func(s *api.Step) { s.At = api.End }), api.ErrArg)
}
