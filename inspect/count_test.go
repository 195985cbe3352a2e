package inspect_test

import (
	"fmt"
	"testing"

	"reelfeeder/api"
	"reelfeeder/inspect"
)

// counts are the pairs of Counts.
func counts(defects, falseCalls, escapes, good int) []api.Pair {
	return pairs(fmt.Sprintf("defects %d, false %d, escapes %d, good %d", defects, falseCalls, escapes, good))
}

// TestExample is the one at the end of the chapter.
func TestExample(t *testing.T) {
	l := looks("1 b c1 good, 1 b c2 defect, 1 b c3 escape, 1 b c4 good")
	is(t, "a million", two(inspect.Million(l)), list{api.Fraction{Num: 500_000, Den: 1}, api.OK})
}

func TestCounts(t *testing.T) {
	for _, c := range []struct {
		l       string
		want    []api.Pair
		million api.Fraction
	}{
		{"1 b c good", counts(0, 0, 0, 1), api.Fraction{Num: 0, Den: 1}},
		{"1 b c defect", counts(1, 0, 0, 0), api.Fraction{Num: 1_000_000, Den: 1}},
		{"1 b c false", counts(0, 1, 0, 0), api.Fraction{Num: 0, Den: 1}},
		{"1 b c escape", counts(0, 0, 1, 0), api.Fraction{Num: 1_000_000, Den: 1}},
		{"1 b c false, 1 b d good", counts(0, 1, 0, 1), api.Fraction{Num: 0, Den: 1}},
		{"1 b c escape, 1 b d false, 2 a c good", counts(0, 1, 1, 1), api.Fraction{Num: 1_000_000, Den: 3}},
		{"1 b c escape, 1 b d escape, 2 a c good", counts(0, 0, 2, 1), api.Fraction{Num: 2_000_000, Den: 3}},
		{"1 b c defect, 1 b d defect, 2 a c escape, 3 a d good, 3 d c false, 4 d d false, 5 d e false", counts(2, 3, 1, 1), api.Fraction{Num: 3_000_000, Den: 7}},
	} {
		is(t, c.l, two(inspect.Counts(looks(c.l))), list{c.want, api.OK})
		is(t, c.l, two(inspect.Million(looks(c.l))), list{c.million, api.OK})
	}
	is(t, "no looks", two(inspect.Counts(nil)), list{counts(0, 0, 0, 0), api.OK})
	is(t, "no looks", two(inspect.Million(nil)), list{api.Fraction{}, api.ErrNone})
	is(t, "no looks", two(inspect.Million([]api.Look{})), list{api.Fraction{}, api.ErrNone})
	l := many(api.MaxLooks)
	for i := range l {
		l[i].Bad = i != 17
	}
	is(t, "the most", two(inspect.Counts(l)), list{counts(0, 0, api.MaxLooks-1, 1), api.OK})
	is(t, "the most", two(inspect.Million(l)), list{api.Fraction{Num: 999_800, Den: 1}, api.OK})
}

// TestVerdicts holds that each verdict but VerdictGood calls a component.
func TestVerdicts(t *testing.T) {
	for verdict := api.VerdictMissing; verdict <= api.VerdictSoldered; verdict++ {
		l := changed(looks("1 b c good"), 0, func(k *api.Look) { k.Verdict = verdict })
		is(t, fmt.Sprint(verdict), two(inspect.Counts(l)), list{counts(0, 1, 0, 0), api.OK})
		is(t, fmt.Sprint(verdict), two(inspect.FalseCalls(l)), list{api.Fraction{Num: 1, Den: 1}, api.OK})
		l[0].Bad = true
		is(t, fmt.Sprint(verdict), two(inspect.Counts(l)), list{counts(1, 0, 0, 0), api.OK})
		is(t, fmt.Sprint(verdict), two(inspect.FalseCalls(l)), list{api.Fraction{Num: 0, Den: 1}, api.OK})
		is(t, fmt.Sprint(verdict), two(inspect.Escapes(l)), list{pairs(""), api.OK})
	}
}

func TestFalseCalls(t *testing.T) {
	for _, c := range []struct {
		l    string
		want api.Fraction
		e    api.Errno
	}{
		{"", api.Fraction{}, api.ErrNone},
		{"1 b c good", api.Fraction{}, api.ErrNone},
		{"1 b c good, 1 b d escape", api.Fraction{}, api.ErrNone},
		{"1 b c defect", api.Fraction{Num: 0, Den: 1}, api.OK},
		{"1 b c false", api.Fraction{Num: 1, Den: 1}, api.OK},
		{"1 b c false, 1 b d defect", api.Fraction{Num: 1, Den: 2}, api.OK},
		{"1 b c false, 1 b d defect, 1 b e good, 1 b f escape", api.Fraction{Num: 1, Den: 2}, api.OK},
		{"1 b c false, 1 b d defect, 1 b e false", api.Fraction{Num: 2, Den: 3}, api.OK},
		{"1 b c false, 1 b d defect, 1 b e defect, 1 b f false, 1 b g defect, 1 b h defect", api.Fraction{Num: 1, Den: 3}, api.OK},
	} {
		is(t, c.l, two(inspect.FalseCalls(looks(c.l))), list{c.want, c.e})
	}
}

func TestEscapes(t *testing.T) {
	for _, c := range []struct{ l, want string }{
		{"", ""},
		{"1 b c good, 1 b d defect, 1 b e false", ""},
		{"1 b c escape", "b c"},
		{"1 b c escape, 1 b d escape, 1 e a escape", "b c, b d, e a"},
		{"1 b d escape, 2 b c escape", "b c, b d"},     // by component, not by moment
		{"1 e c escape, 2 a d escape", "a d, e c"},     // by board
		{"1 a d escape, 1 b a escape", "a d, b a"},     // the board first
		{"1 a c escape, 1 a-1 c escape", "a c, a-1 c"}, // not as a string with a blank or another byte between
		{"1 a z escape, 1 a-1 c escape", "a z, a-1 c"},
		{"1 a1 c escape, 2 a_1 c escape, 3 a-1 c escape, 4 a c escape", "a c, a-1 c, a1 c, a_1 c"},
	} {
		is(t, c.l, two(inspect.Escapes(looks(c.l))), list{pairs(c.want), api.OK})
	}
}

func TestGoodBoards(t *testing.T) {
	for _, c := range []struct {
		l    string
		want []string
	}{
		{"", keys()},
		{"1 b c good", keys("b")},
		{"1 b c false", keys("b")},
		{"1 b c defect", keys()},
		{"1 b c escape", keys()},
		{"1 b c good, 1 b d escape, 1 b e good", keys()},
		{"1 b c good, 1 b d false, 2 a c defect, 3 a d good", keys("b")},
		{"1 b c good, 2 a c good, 3 b d good, 3 d c good", keys("a", "b", "d")},
		{"1 b c good, 2 a c good, 3 b d defect, 3 d c good", keys("a", "d")},
		{"1 b1 c good, 2 b_1 c good, 3 b-1 c good, 4 b c good", keys("b", "b-1", "b1", "b_1")},
	} {
		is(t, c.l, two(inspect.GoodBoards(looks(c.l))), list{c.want, api.OK})
	}
}
