package rework_test

import (
	"fmt"
	"math"
	"testing"

	"reelfeeder/api"
	"reelfeeder/rework"
)

// several are steps of several boards, some of them at the same moment. Board w is only refused, at first.
func several() []api.Step {
	return steps("2 v reflow, 3 w ship, 5 u reflow, 5 v fail r1, 5 v repair r1, 5 v fail r2, 6 u fail b, 6 t reflow, 6 t fail c, 7 u fail a, 7 w scrap, 9 v repair r2, 9 x pass, 9 v pass, 11 v ship, 12 u repair b")
}

func TestAt(t *testing.T) {
	for _, c := range []struct {
		board string
		at    int
		want  string
	}{
		{"v", 0, "new0 0"},
		{"v", 1, "new0 0"},
		{"v", 2, "soldered2 1"},
		{"v", 4, "soldered2 1"},
		{"v", 5, "failed5 2 r2"}, // all steps of the moment
		{"v", 8, "failed5 2 r2"},
		{"v", 9, "passed9 3"},
		{"v", 10, "passed9 3"},
		{"v", 11, "shipped11 3"},
		{"v", api.End - 1, "shipped11 3"},
		{"u", 5, "soldered5 1"},
		{"u", 6, "failed6 1 b"},
		{"u", 7, "failed6 1 a b"},
		{"u", 12, "failed6 2 a"}, // not all is repaired
		{"w", 2, "new0 0"},
		{"w", 3, "new0 0"}, // refused
		{"w", 7, "scrapped7 0"},
		{"x", 9, "new0 0"},
		{"nobody", 9, "new0 0"}, // a board without steps
		{"r1", 9, "new0 0"},
		{long, 9, "new0 0"},
	} {
		got, e := rework.At(rules(3, 1), several(), c.board, c.at)
		is(t, fmt.Sprint(c.board, c.at), list{condition(got), e}, list{c.want, api.OK})
	}
	got, e := rework.At(rules(3, 1), nil, "u", 0)
	is(t, "no steps", list{condition(got), e}, list{"new0 0", api.OK})
}

// TestSince holds that a board that comes back to a state is in it from then on.
func TestSince(t *testing.T) {
	s := ofU("reflow, fail r1, fail r2, repair r1, repair r2, reflow, fail r1")
	for at, want := range []string{"new0 0", "soldered1 1", "failed2 1 r1", "failed2 1 r1 r2", "failed2 2 r2", "soldered5 3", "soldered5 4", "failed7 4 r1"} {
		got, e := rework.At(rules(9, 9), s, "u", at)
		is(t, fmt.Sprint(at), list{condition(got), e}, list{want, api.OK})
	}
}

func TestBoards(t *testing.T) {
	for _, c := range []struct {
		at   int
		want [7][]string // by state
	}{
		{0, [7][]string{}},
		{2, [7][]string{api.BoardSoldered: {"v"}}},
		{3, [7][]string{api.BoardNew: {"w"}, api.BoardSoldered: {"v"}}}, // refused steps are steps
		{5, [7][]string{api.BoardNew: {"w"}, api.BoardSoldered: {"u"}, api.BoardFailed: {"v"}}},
		{6, [7][]string{api.BoardNew: {"w"}, api.BoardFailed: {"t", "u", "v"}}},
		{8, [7][]string{api.BoardFailed: {"t", "u", "v"}, api.BoardScrapped: {"w"}}},
		{9, [7][]string{api.BoardNew: {"x"}, api.BoardFailed: {"t", "u"}, api.BoardPassed: {"v"}, api.BoardScrapped: {"w"}}},
		{99, [7][]string{api.BoardNew: {"x"}, api.BoardFailed: {"t", "u"}, api.BoardScrapped: {"w"}, api.BoardShipped: {"v"}}},
	} {
		for state := api.BoardNew; state <= api.BoardShipped; state++ {
			is(t, fmt.Sprint(c.at, states[state]), two(rework.Boards(rules(3, 1), several(), c.at, state)), list{c.want[state], api.OK})
		}
	}
	s := steps("1 b scrap, 1 a1 scrap, 1 a-1 scrap, 1 a_1 scrap, 2 a scrap")
	is(t, "sorted", two(rework.Boards(rules(3, 1), s, 5, api.BoardScrapped)), list{keys("a", "a-1", "a1", "a_1", "b"), api.OK})
}

func TestWaiting(t *testing.T) {
	for _, c := range []struct {
		at            int
		waiting, lost []string
	}{
		{4, nil, nil},
		{5, keys("v"), nil},
		{6, keys("v", "t", "u"), nil}, // t and u since the same moment
		{8, keys("v", "t", "u"), nil},
		{9, keys("t", "u"), nil},
		{12, keys("t", "u"), nil},
	} {
		is(t, fmt.Sprint("waiting ", c.at), two(rework.Waiting(rules(3, 1), several(), c.at)), list{c.waiting, api.OK})
		is(t, fmt.Sprint("hopeless ", c.at), two(rework.Hopeless(rules(3, 1), several(), c.at)), list{c.lost, api.OK})
	}
	s := steps("1 c reflow, 1 b reflow, 1 a reflow, 2 c fail r, 3 b fail r, 3 a fail r, 4 c fail s")
	is(t, "by moment", two(rework.Waiting(rules(1, 1), s, 5)), list{keys("c", "a", "b"), api.OK})
	is(t, "by name", two(rework.Hopeless(rules(1, 1), s, 5)), list{keys("a", "b", "c"), api.OK})
	is(t, "by name", two(rework.Hopeless(rules(2, 1), s, 5)), list{keys("c"), api.OK})
	is(t, "by name", two(rework.Hopeless(rules(3, 1), s, 5)), list{keys(), api.OK})
	again := append(s, steps("5 c repair r, 6 c repair s, 7 c fail t")...)
	is(t, "it failed again", two(rework.Waiting(rules(3, 1), again, 7)), list{keys("a", "b", "c"), api.OK})
	is(t, "scrapped", two(rework.Waiting(rules(3, 1), append(again, steps("8 a scrap")...), 8)), list{keys("b", "c"), api.OK})
	is(t, "scrapped", two(rework.Hopeless(rules(1, 1), append(s, steps("8 a scrap")...), 8)), list{keys("b", "c"), api.OK})
}

// TestHopeless holds when a board cannot be soldered any more.
func TestHopeless(t *testing.T) {
	for _, c := range []struct {
		rules api.Rules
		steps string
		want  bool
	}{
		{rules(3, 1), "reflow, fail r1, repair r1, fail r1", true}, // the example
		{rules(3, 2), "reflow, fail r1, repair r1, fail r1", false},
		{rules(2, 2), "reflow, fail r1, repair r1, fail r1", true},
		{rules(3, 1), "reflow, fail r1, repair r1, fail r2", false},
		{rules(2, 1), "reflow, fail r1, repair r1, fail r2", true},
		{rules(9, 1), "reflow, fail r1, repair r1, fail r2, fail r1", true},
		{rules(9, 1), "reflow, fail r1, fail r2, repair r1", false},         // r1 is not open
		{rules(9, 1), "reflow, fail r1, fail r2, repair r1, fail r1", true}, // now it is
		{rules(9, 1), "reflow, fail r1, repair r1", false},                  // it does not wait
		{rules(9, 1), "reflow, fail r1, repair r1, fail r1, scrap", false},  // likewise
		{rules(9, 0), "reflow, fail r1", true},
		{rules(1, 1), "reflow, fail r1", true},
		{rules(2, 1), "reflow, fail r1", false},
		{rules(2, 1), "reflow, fail r1, fail r2", true},
		{rules(3, 1), "reflow, fail r1, fail r2", false},
		{rules(3, 1), "reflow, reflow, fail r1, fail r2", true},
		{rules(1, 1), "reflow", false},
		{rules(0, 0), "reflow, scrap", false},
	} {
		var want []string
		if c.want {
			want = keys("u")
		}
		is(t, c.steps, two(rework.Hopeless(c.rules, ofU(c.steps), 100)), list{want, api.OK})
	}
}

func TestTimes(t *testing.T) {
	for _, c := range []struct {
		board string
		at    int
		want  []int
	}{
		{"v", 2, []int{0, 0, 0, 0, 0, 0}},
		{"v", 3, []int{0, 1, 0, 0, 0, 0}},
		{"v", 5, []int{0, 3, 0, 0, 0, 0}},
		{"v", 9, []int{0, 3, 4, 0, 0, 0}},
		{"v", 20, []int{0, 3, 4, 2, 0, 9}},
		{"u", 6, []int{0, 1, 0, 0, 0, 0}},
		{"u", 16, []int{0, 1, 10, 0, 0, 0}},
		{"w", 3, []int{0, 0, 0, 0, 0, 0}},
		{"w", 6, []int{3, 0, 0, 0, 0, 0}}, // its first step is refused
		{"w", 9, []int{4, 0, 0, 0, 2, 0}},
		{"x", 10, []int{1, 0, 0, 0, 0, 0}},
		{"t", 6, []int{0, 0, 0, 0, 0, 0}},
		{"t", 8, []int{0, 0, 2, 0, 0, 0}},
		{"x", api.End - 1, []int{api.End - 10, 0, 0, 0, 0, 0}},
	} {
		is(t, fmt.Sprint(c.board, c.at), two(rework.Times(rules(3, 1), several(), c.board, c.at)), list{c.want, api.OK})
	}
	s := ofU("reflow, fail r1, repair r1, fail r1, repair r1, reflow, reflow") // the last ones are refused
	is(t, "again", two(rework.Times(rules(3, 1), s, "u", 10)), list{[]int{0, 2, 7, 0, 0, 0}, api.OK})
}

// TestMomentErrors holds the errors of P8.3, and their order.
func TestMomentErrors(t *testing.T) {
	r, s := rules(3, 1), several()
	for _, key := range badKeys {
		for _, at := range []int{5, -1, api.End} {
			is(t, fmt.Sprintf("at %q", key), two(rework.At(r, s, key, at)), list{api.Condition{}, api.ErrName})
			is(t, fmt.Sprintf("times %q", key), two(rework.Times(r, s, key, at)), list{[]int{}, api.ErrName})
		}
	}
	for _, at := range outside(api.End - 1) {
		is(t, "at", two(rework.At(r, s, "v", at)), list{api.Condition{}, api.ErrArg})
		is(t, "boards", two(rework.Boards(r, s, at, api.BoardFailed)), list{keys(), api.ErrArg})
		is(t, "boards", two(rework.Boards(r, s, at, 0)), list{keys(), api.ErrArg})
		is(t, "waiting", two(rework.Waiting(r, s, at)), list{keys(), api.ErrArg})
		is(t, "hopeless", two(rework.Hopeless(r, s, at)), list{keys(), api.ErrArg})
		is(t, "times", two(rework.Times(r, s, "v", at)), list{[]int{}, api.ErrArg})
		is(t, "times", two(rework.Times(r, s, "nobody", at)), list{[]int{}, api.ErrArg})
	}
	for _, state := range []int{0, 7, -1, math.MinInt, math.MaxInt} {
		is(t, "boards", two(rework.Boards(r, s, 5, state)), list{keys(), api.ErrKind})
		is(t, "boards", two(rework.Boards(r, nil, 5, state)), list{keys(), api.ErrKind})
	}
	is(t, "nobody", two(rework.Times(r, s, "nobody", 9)), list{[]int{}, api.ErrNone})
	is(t, "too early", two(rework.Times(r, s, "v", 1)), list{[]int{}, api.ErrNone})
	is(t, "too early", two(rework.Times(r, s, "w", 2)), list{[]int{}, api.ErrNone})
	is(t, "no steps", two(rework.Times(r, nil, "v", 1)), list{[]int{}, api.ErrNone})
}
