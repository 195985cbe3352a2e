package rework_test

import (
	"fmt"
	"strings"
	"testing"

	"reelfeeder/api"
	"reelfeeder/rework"
)

// reasons are the indices of refused steps, and why: "2 state, 3 rule".
func reasons(words string) (indices []int, why []api.Errno) {
	errors := map[string]api.Errno{"state": api.ErrState, "rule": api.ErrRule, "twice": api.ErrTwice, "none": api.ErrNone}
	for _, p := range pairs(words) {
		if errors[p.Value] == api.OK {
			panic(words)
		}
		indices = append(indices, number(p.Name))
		why = append(why, errors[p.Value])
	}
	return indices, why
}

// states are the words of states, in the order of their numbers.
var states = []string{"", "new", "soldered", "failed", "passed", "scrapped", "shipped"}

// condition is what a board is like, as words: its state, since when, how often it was heated, its open components.
func condition(c api.Condition) string {
	return strings.TrimSpace(fmt.Sprint(states[c.State], c.Since, " ", c.Heats, " ", strings.Join(c.Open, " ")))
}

// TestSteps holds P8.2: what is refused, and what the board is like afterwards.
func TestSteps(t *testing.T) {
	for _, c := range []struct {
		rules          api.Rules
		steps, refused string
		after          string
	}{
		{rules(3, 1), "", "", "new0 0"},
		{rules(3, 1), "reflow", "", "soldered1 1"},
		{rules(3, 1), "reflow, reflow, reflow", "", "soldered1 3"}, // it stays what it is
		{rules(3, 1), "reflow, reflow, reflow, reflow", "3 rule", "soldered1 3"},
		{rules(0, 1), "reflow", "0 rule", "new0 0"},
		{rules(3, 1), "reflow, fail r1, reflow", "2 state", "failed2 1 r1"},
		{rules(1, 1), "reflow, fail r1, reflow", "2 state", "failed2 1 r1"}, // the state before the rule
		{rules(3, 1), "reflow, pass, reflow", "2 state", "passed2 1"},
		{rules(3, 1), "scrap, reflow", "1 state", "scrapped1 0"},
		{rules(3, 1), "reflow, pass, ship, reflow", "3 state", "shipped3 1"},

		{rules(3, 1), "fail r1", "0 state", "new0 0"},
		{rules(3, 1), "fail r1, reflow, fail r1", "0 state", "failed3 1 r1"}, // what is refused is no defect
		{rules(3, 1), "reflow, fail r1, fail r2", "", "failed2 1 r1 r2"},
		{rules(3, 1), "reflow, fail r2, fail r1, fail r10", "", "failed2 1 r1 r10 r2"},
		{rules(3, 1), "reflow, fail r1, fail r1", "2 twice", "failed2 1 r1"},
		{rules(3, 1), "reflow, fail r1, fail r2, fail r1, fail r2", "3 twice, 4 twice", "failed2 1 r1 r2"},
		{rules(3, 1), "reflow, fail r1, repair r1, fail r1", "", "failed4 2 r1"},
		{rules(4, 1), "reflow, fail r1, fail r2, repair r1, fail r1", "", "failed2 2 r1 r2"},
		{rules(3, 1), "reflow, pass, fail r1", "2 state", "passed2 1"},
		{rules(3, 1), "reflow, fail r1, scrap, fail r1, fail r2", "3 state, 4 state", "scrapped3 1 r1"},
		{rules(3, 1), "reflow, pass, ship, fail r1", "3 state", "shipped3 1"},

		{rules(3, 1), "pass", "0 state", "new0 0"},
		{rules(3, 1), "reflow, pass", "", "passed2 1"},
		{rules(3, 1), "reflow, pass, pass", "2 state", "passed2 1"},
		{rules(3, 1), "reflow, fail r1, pass", "2 state", "failed2 1 r1"},
		{rules(3, 1), "reflow, fail r1, repair r1, pass", "", "passed4 2"},
		{rules(3, 1), "scrap, pass", "1 state", "scrapped1 0"},
		{rules(3, 1), "reflow, pass, ship, pass", "3 state", "shipped3 1"},

		{rules(3, 1), "repair r1", "0 state", "new0 0"},
		{rules(3, 1), "reflow, repair r1", "1 state", "soldered1 1"},
		{rules(3, 1), "reflow, fail r1, repair r1", "", "soldered3 2"},
		{rules(3, 1), "reflow, fail r1, repair r1, repair r1", "3 state", "soldered3 2"},
		{rules(3, 1), "reflow, fail r1, repair r2", "2 none", "failed2 1 r1"},
		{rules(3, 1), "reflow, fail r1, fail r2, repair r1, repair r1", "4 none", "failed2 2 r2"},
		{rules(3, 0), "reflow, fail r1, repair r2", "2 none", "failed2 1 r1"}, // none before the rule
		{rules(1, 1), "reflow, fail r1, repair r2", "2 none", "failed2 1 r1"},
		{rules(3, 0), "reflow, fail r1, repair r1", "2 rule", "failed2 1 r1"},
		{rules(1, 1), "reflow, fail r1, repair r1", "2 rule", "failed2 1 r1"},
		{rules(3, 1), "reflow, fail r1, fail r2, repair r1, repair r2", "", "soldered5 3"},
		{rules(2, 1), "reflow, fail r1, fail r2, repair r1, repair r2", "4 rule", "failed2 2 r2"},
		{rules(3, 1), "reflow, fail r1, repair r1, fail r1, repair r1", "4 rule", "failed4 2 r1"}, // the example
		{rules(3, 2), "reflow, fail r1, repair r1, fail r1, repair r1", "", "soldered5 3"},
		{rules(9, 2), "reflow, fail r1, repair r1, fail r1, repair r1, fail r1, repair r1", "6 rule", "failed6 3 r1"},
		{rules(3, 1), "reflow, fail r1, repair r1, fail r2, repair r2", "", "soldered5 3"}, // each component on its own
		{rules(3, 1), "reflow, fail r1, fail r2, repair r2, repair r2, repair r1", "4 none", "soldered6 3"},
		{rules(3, 1), "reflow, pass, repair r1", "2 state", "passed2 1"},
		{rules(3, 1), "reflow, fail r1, scrap, repair r1", "3 state", "scrapped3 1 r1"},
		{rules(3, 1), "reflow, reflow, reflow, fail r1, repair r1", "4 rule", "failed4 3 r1"},
		{rules(2, 1), "reflow, fail r1, repair r1, reflow", "3 rule", "soldered3 2"}, // repairs heat, too

		{rules(3, 1), "scrap", "", "scrapped1 0"},
		{rules(3, 1), "scrap, scrap", "1 state", "scrapped1 0"},
		{rules(3, 1), "reflow, scrap", "", "scrapped2 1"},
		{rules(3, 1), "reflow, fail r2, fail r1, scrap", "", "scrapped4 1 r1 r2"}, // its open defects stay
		{rules(3, 1), "reflow, pass, scrap", "", "scrapped3 1"},
		{rules(3, 1), "reflow, pass, ship, scrap", "3 state", "shipped3 1"},

		{rules(3, 1), "ship", "0 state", "new0 0"},
		{rules(3, 1), "reflow, ship", "1 state", "soldered1 1"},
		{rules(3, 1), "reflow, fail r1, ship", "2 state", "failed2 1 r1"},
		{rules(3, 1), "reflow, pass, ship", "", "shipped3 1"},
		{rules(3, 1), "reflow, pass, ship, ship", "3 state", "shipped3 1"},
		{rules(3, 1), "scrap, ship", "1 state", "scrapped1 0"},
		{rules(3, 1), "reflow, pass, scrap, ship", "3 state", "scrapped3 1"},
	} {
		s := ofU(c.steps)
		indices, why := reasons(c.refused)
		is(t, c.steps, three(rework.Refused(c.rules, s)), list{indices, why, api.OK})
		after, e := rework.At(c.rules, s, "u", 100)
		is(t, c.steps, list{condition(after), e}, list{c.after, api.OK})
		// The same steps of another board in between change nothing.
		var both []api.Step
		for _, step := range s {
			other := step
			other.Board = "v"
			both = append(both, other, step)
		}
		after, e = rework.At(c.rules, both, "u", 100)
		is(t, "with v: "+c.steps, list{condition(after), e}, list{c.after, api.OK})
	}
}

// TestAllHeats holds that boards can be heated, and components repaired, up to MaxHeats times.
func TestAllHeats(t *testing.T) {
	s := ofU("reflow" + strings.Repeat(", fail r1, repair r1", 100))
	is(t, "heats", three(rework.Refused(rules(100, 100), s)), list{[]int{200}, []api.Errno{api.ErrRule}, api.OK})
	is(t, "hopeless", two(rework.Hopeless(rules(100, 100), s, 201)), list{keys("u"), api.OK})
	s = ofU("reflow" + strings.Repeat(", fail r1, repair r1", 99))
	is(t, "just not too many", three(rework.Refused(rules(100, 99), s)), list{[]int{}, []api.Errno{}, api.OK})
	is(t, "one less", three(rework.Refused(rules(100, 98), s)), list{[]int{198}, []api.Errno{api.ErrRule}, api.OK})
}

// TestNoSteps holds that all functions take no steps.
func TestNoSteps(t *testing.T) {
	is(t, "refused", three(rework.Refused(rules(1, 1), nil)), list{[]int{}, []api.Errno{}, api.OK})
	is(t, "boards", two(rework.Boards(rules(1, 1), nil, 5, api.BoardNew)), list{keys(), api.OK})
	is(t, "waiting", two(rework.Waiting(rules(1, 1), nil, 5)), list{keys(), api.OK})
	is(t, "hopeless", two(rework.Hopeless(rules(1, 1), nil, 5)), list{keys(), api.OK})
	is(t, "first pass", three(rework.FirstPass(rules(1, 1), nil)), list{api.Fraction{}, false, api.OK})
	is(t, "final", three(rework.Final(rules(1, 1), nil)), list{api.Fraction{}, false, api.OK})
	is(t, "loops", two(rework.Loops(rules(1, 1), nil)), list{pairs(""), api.OK})
	is(t, "worst", two(rework.Worst(rules(1, 1), nil)), list{pairs(""), api.OK})
}
