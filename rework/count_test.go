package rework_test

import (
	"fmt"
	"testing"

	"reelfeeder/api"
	"reelfeeder/rework"
)

func TestFirstPass(t *testing.T) {
	for _, c := range []struct {
		steps    string
		num, den int
	}{
		{"1 u reflow", 0, 0},
		{"1 u pass, 1 v fail r", 0, 0}, // refused
		{"1 u reflow, 1 v scrap, 2 v pass", 0, 0},
		{"1 u reflow, 2 u pass", 1, 1},
		{"1 u reflow, 2 u pass, 3 u pass, 4 u fail r", 1, 1},
		{"1 u reflow, 2 u fail r", 0, 1},
		{"1 u reflow, 2 u fail r, 3 u pass, 4 u repair r, 5 u pass", 0, 1},
		{"1 u pass, 1 u reflow, 2 u fail r", 0, 1}, // the first one is refused
		{"1 u fail r, 1 u reflow, 2 u pass", 1, 1},
		{"1 u reflow, 1 v reflow, 2 v fail r, 3 u pass", 1, 2},
		{"1 a reflow, 1 b reflow, 1 c reflow, 1 d reflow, 2 a pass, 2 b fail r, 3 c pass", 2, 3},
		{"1 a reflow, 1 b reflow, 1 c reflow, 1 d reflow, 2 a pass, 2 b fail r, 3 c pass, 3 d fail r", 1, 2},
		{"1 a reflow, 1 b reflow, 2 a fail r, 2 b fail r", 0, 1},
	} {
		want := list{api.Fraction{Num: c.num, Den: c.den}, c.den > 0, api.OK}
		is(t, c.steps, three(rework.FirstPass(rules(3, 1), steps(c.steps))), want)
	}
}

func TestFinal(t *testing.T) {
	for _, c := range []struct {
		steps    string
		num, den int
	}{
		{"1 u reflow", 0, 0},
		{"1 u reflow, 2 u pass, 2 v ship", 0, 0},
		{"1 u scrap", 0, 1},
		{"1 u reflow, 2 u pass, 3 u ship", 1, 1},
		{"1 u reflow, 2 u pass, 3 u ship, 4 u scrap", 1, 1}, // refused
		{"1 u reflow, 2 u pass, 3 u scrap, 4 u ship", 0, 1},
		{"1 u reflow, 2 u pass, 3 u ship, 3 v scrap, 4 w reflow", 1, 2},
		{"1 u reflow, 2 u pass, 3 u ship, 3 v scrap, 4 w scrap", 1, 3},
		{"1 u reflow, 2 u pass, 3 u ship, 3 v scrap, 4 w scrap, 5 a reflow, 6 a pass, 7 a ship", 1, 2},
		{"1 v scrap, 4 w scrap, 4 w scrap", 0, 1},
	} {
		want := list{api.Fraction{Num: c.num, Den: c.den}, c.den > 0, api.OK}
		is(t, c.steps, three(rework.Final(rules(3, 1), steps(c.steps))), want)
	}
}

func TestLoops(t *testing.T) {
	for _, c := range []struct {
		rules       api.Rules
		steps, want string
	}{
		{rules(9, 9), "1 u reflow, 2 u fail r", ""},
		{rules(9, 9), "1 u reflow, 2 u fail r, 3 u repair r", "u 1"},
		{rules(9, 9), "1 u reflow, 2 u fail r, 2 u fail s, 3 u repair r", ""}, // not yet soldered
		{rules(9, 9), "1 u reflow, 2 u fail r, 2 u fail s, 3 u repair r, 3 u repair s", "u 1"},
		{rules(9, 9), "1 u reflow, 2 u fail r, 3 u repair r, 3 u fail s, 3 u repair s, 3 u fail r", "u 2"},
		{rules(9, 1), "1 u reflow, 2 u fail r, 3 u repair r, 3 u fail r, 3 u repair r", "u 1"}, // refused
		{rules(9, 9), "1 u reflow, 2 u reflow, 3 u pass", ""},
		{rules(9, 9), "1 v reflow, 1 u reflow, 2 v fail r, 2 u fail r, 3 v repair r, 3 u repair r, 4 v fail r, 5 v repair r, 6 u scrap", "u 1, v 2"},
		{rules(9, 9), "1 u repair r, 2 u reflow", ""},
	} {
		is(t, c.steps, two(rework.Loops(c.rules, steps(c.steps))), list{pairs(c.want), api.OK})
	}
	s := "1 u reflow"
	for i := range 12 {
		s += fmt.Sprintf(", %d u fail r, %d u repair r", i+2, i+2)
	}
	is(t, "two digits", two(rework.Loops(rules(99, 99), steps(s))), list{pairs("u 12"), api.OK})
}

func TestWorst(t *testing.T) {
	for _, c := range []struct{ steps, want string }{
		{"1 u reflow, 2 u pass", ""},
		{"1 u reflow, 2 u fail r", "r 1"},
		{"1 u reflow, 2 u fail r, 2 u fail r", "r 1"}, // refused
		{"1 u fail r, 2 u reflow", ""},
		{"1 u reflow, 2 u fail r, 3 u repair r, 4 u fail r", "r 2"},
		{"1 u reflow, 1 v reflow, 2 u fail r, 2 v fail r", "r 2"}, // of all boards
		{"1 u reflow, 2 u fail s, 2 u fail r", "r 1, s 1"},
		{"1 u reflow, 1 v reflow, 2 u fail a, 2 u fail c, 3 v fail b, 4 v fail c, 4 v fail d, 4 v fail b", "c 2, a 1, b 1, d 1"},
		{"1 u reflow, 2 u fail s, 3 u scrap", "s 1"},
		{"1 u reflow, 2 u fail a1, 3 u fail a-1, 3 u fail a_1", "a-1 1, a1 1, a_1 1"},
	} {
		is(t, c.steps, two(rework.Worst(rules(3, 1), steps(c.steps))), list{pairs(c.want), api.OK})
	}
	s := "1 u reflow, 2 u fail a, 2 u fail c"
	for i := range 9 {
		s += fmt.Sprintf(", %d u repair c, %d u fail c", i+2, i+2)
	}
	s += ", 80 v reflow, 81 v fail a"
	is(t, "numbers, not their words", two(rework.Worst(rules(99, 99), steps(s))), list{pairs("c 10, a 2"), api.OK})
}
