package inspect_test

import (
	"fmt"
	"math"
	"testing"

	"reelfeeder/api"
	"reelfeeder/inspect"
)

func TestPositions(t *testing.T) {
	l := "1 a c defect, 1 a d escape, 1 a e good, 1 b c escape, 1 b d good, 2 b e false, 3 d c defect, 4 d b escape, 5 e d defect, 6 f f good"
	for least, want := range map[int][]string{1: keys("b", "c", "d"), 2: keys("c", "d"), 3: keys("c"), 4: keys(), api.MaxLooks: keys()} {
		is(t, fmt.Sprint(least), two(inspect.Positions(looks(l), least)), list{want, api.OK})
	}
	is(t, "none", two(inspect.Positions(nil, 1)), list{keys(), api.OK})
	is(t, "bytes in order", two(inspect.Positions(looks("1 a c1 defect, 2 a c_1 defect, 3 a c-1 defect, 4 a c defect"), 1)), list{keys("c", "c-1", "c1", "c_1"), api.OK})
	all := many(api.MaxLooks)
	for i := range all {
		all[i].Bad = true
	}
	is(t, "the most", two(inspect.Positions(all, api.MaxLooks)), list{keys("c"), api.OK})
	is(t, "the most", two(inspect.Rows(all, api.MaxLooks)), list{pairs("c 5000"), api.OK})
	all[0].Bad = false
	is(t, "one less", two(inspect.Positions(all, api.MaxLooks)), list{keys(), api.OK})
	is(t, "one less", two(inspect.Rows(all, api.MaxLooks)), list{pairs(""), api.OK})
}

func TestRows(t *testing.T) {
	for _, c := range []struct {
		l    string
		long int
		want string
	}{
		{"", 1, ""},
		{"1 a c good, 2 b c false", 1, ""},
		{"1 a c defect", 1, "c 1"},
		{"1 a c escape", 1, "c 1"},
		{"1 a c defect", 2, ""},
		{"1 a c defect, 2 b c escape", 1, "c 2"},
		{"1 a c defect, 2 b c escape", 2, "c 2"},
		{"1 a c defect, 2 b c escape", 3, ""},
		{"1 a c defect, 2 b c false, 3 d c defect", 1, "c 1"},
		{"1 a c defect, 2 b c good, 3 d c defect", 2, ""},
		{"1 a c defect, 2 b d good, 3 d c defect", 2, "c 2"}, // board b has no c
		{"1 a c defect, 1 a d good, 2 b c defect", 2, "c 2"},
		{"1 a c defect, 2 b c defect, 3 d c good, 4 e c defect", 1, "c 2"}, // the first row
		{"1 a c defect, 2 b c good, 3 d c defect, 4 e c defect", 1, "c 2"}, // the last row
		{"1 z c defect, 2 a c good, 3 b c defect, 4 y c defect", 1, "c 2"}, // by moment, not by board
		{"1 a c defect, 1 b c good, 1 d c defect", 1, "c 1"},               // by board at the same moment
		{"1 a c defect, 1 b c defect, 1 d c good", 1, "c 2"},
		{"1 a d defect, 2 a c defect", 1, "c 1, d 1"},
		{"1 a c defect, 1 a d defect, 2 b d defect", 1, "d 2, c 1"},
		{"1 a c defect, 1 a d defect, 2 b d defect", 2, "d 2"},
		{"1 a d defect, 2 b d defect, 3 b c defect, 4 a c defect, 5 a b defect", 1, "c 2, d 2, b 1"},
		{"1 a x defect, 2 b x defect, 3 d c defect, 4 e c defect, 5 f c defect, 6 g c defect, 7 h c defect, 8 i c defect, 9 j c defect, 10 k c defect, 11 l c defect, 12 m c defect", 2, "c 10, x 2"}, // as numbers
	} {
		is(t, c.l, two(inspect.Rows(looks(c.l), c.long)), list{pairs(c.want), api.OK})
	}
}

func TestByMachine(t *testing.T) {
	for _, c := range []struct{ l, want string }{
		{"", ""},
		{"1 a c good", "m 0/1"},
		{"1 a c false", "m 0/1"},
		{"1 a c escape", "m 1/1"},
		{"1 a c defect m n r, 1 a d escape m o s, 2 b c good m n r, 3 b d false m n r", "m 2/4"}, // not in lowest terms
		{"1 a c defect y n r, 1 a d escape x n r, 2 b c good y n r, 3 b d false z n r", "x 1/1, y 1/2, z 0/1"},
		{"1 a c good m1 n r, 1 a d good m_1 n r, 2 b c good m-1 n r, 3 b d good m n r", "m 0/1, m-1 0/1, m1 0/1, m_1 0/1"},
	} {
		is(t, c.l, two(inspect.ByMachine(looks(c.l))), list{pairs(c.want), api.OK})
	}
}

func TestSuspect(t *testing.T) {
	for _, c := range []struct {
		l        string
		least    int
		want     string
		num, den int
	}{
		{"", 1, "", 0, 0},
		{"1 a c good", 1, "", 0, 0},
		{"1 a c defect", 1, "", 0, 0}, // not greater than that of all components
		{"1 a c defect m n r, 1 a d good m o s", 1, "nozzle n", 1, 1},
		{"1 a c defect m n r, 1 a d good m o s", 2, "", 0, 0},
		{"1 a c escape m n r, 1 a d false m o s", 1, "nozzle n", 1, 1},
		{"1 a c defect m n r, 1 a d good m n s", 1, "reel r", 1, 1},
		{"1 a c defect m n r, 1 a d good m o r", 1, "nozzle n", 1, 1},
		{"1 a c defect m n r, 1 a d good m n r", 1, "", 0, 0},
		{"1 a c defect m z a, 1 a d good m y b", 1, "nozzle z", 1, 1},                   // of equal ones the least string
		{"1 a c defect m n b, 1 a d defect m n a, 1 a e good m n d", 1, "reel a", 1, 1}, // the least key
		{"1 a c defect m n1 r, 1 a d defect m n_1 r, 1 a e defect m n-1 r, 1 a f good m n r", 1, "nozzle n-1", 1, 1},
		{"1 a c defect m n r, 1 a d good m n s, 1 a e defect m o s, 1 a f good m o s", 1, "reel r", 1, 1},
		{"1 a c defect m n r, 1 a d good m n s, 1 a e defect m o s, 1 a f good m o s", 2, "", 0, 0}, // n and o: just as all
		{"1 a c defect m n r, 1 a d defect m n r, 1 a e good m n r, 1 a f good m o s", 1, "nozzle n", 2, 3},
		{"1 a c defect m n r, 1 a d defect m n r, 1 a e good m n s, 1 a f good m o s", 1, "reel r", 1, 1}, // the part, not the number
		{"1 a c defect m n r, 1 a d defect m n r, 1 a e good m n s, 1 a f good m o s", 3, "nozzle n", 2, 3},
		{"1 a c defect m n r, 1 a d good m n r, 1 a e good m n r, 1 a f good m o s, 1 b c defect m n r, 1 b d good m n r", 4, "nozzle n", 2, 5},
		{"1 a c defect m n r, 1 a d good m n r, 1 a e defect m n r, 1 a f good m n r, 1 b c good m o s", 1, "nozzle n", 1, 2}, // in lowest terms
	} {
		want := list{c.want, api.Fraction{Num: c.num, Den: c.den}, c.want != "", api.OK}
		is(t, fmt.Sprint(c.least, " ", c.l), four(inspect.Suspect(looks(c.l), c.least)), want)
	}
}

// TestSuspectName holds that a nozzle and a reel with the same key are two things.
func TestSuspectName(t *testing.T) {
	l := looks("1 a c defect m x y, 1 a d good m y x, 1 a e defect m x z, 1 a f good m z x")
	is(t, "nozzle", four(inspect.Suspect(l, 2)), list{"nozzle x", api.Fraction{Num: 1, Den: 1}, true, api.OK})
	is(t, "together they would be 4", four(inspect.Suspect(l, 3)), list{"", api.Fraction{}, false, api.OK})
}

func TestWorse(t *testing.T) {
	for _, c := range []struct {
		l     string
		split int
		want  bool
	}{
		{"", 0, false},
		{"1 a c good, 2 b c defect", 2, true},
		{"1 a c good, 2 b c escape", 2, true},
		{"1 a c false, 2 b c false", 2, false},
		{"1 a c good, 2 b c defect", 1, false}, // none before
		{"1 a c good, 2 b c defect", 0, false},
		{"1 a c good, 2 b c defect", 3, false}, // none from then on
		{"1 a c good, 2 b c defect", api.End - 1, false},
		{"1 a c good, 5 b c defect", 3, true},
		{"1 a c defect, 2 b c good", 2, false},
		{"1 a c defect, 2 b c defect", 2, false}, // as great
		{"1 a c defect, 1 a d good, 2 b c defect, 2 b d good, 2 b e defect, 2 b f good", 2, false},
		{"1 a c defect, 1 a d good, 2 b c defect, 2 b d good, 2 b e defect", 2, true},
		{"1 a c defect, 1 a d defect, 1 a e good, 2 b c defect", 2, true}, // less of them, but a greater part
		{"1 a c defect, 2 b c defect, 2 b d defect, 2 b e good", 2, false},
		{"1 a c good, 1 a d defect m n s, 2 b c defect, 2 b d good m n s", 2, true}, // other reels do not count
		{"1 a c defect m n s, 2 b c good, 3 b d defect m n s", 3, false},
		{"1 a c good m n s, 2 b c defect", 2, false},
	} {
		is(t, fmt.Sprint(c.split, " ", c.l), two(inspect.Worse(looks(c.l), c.split, "r")), list{c.want, api.OK})
	}
	l := looks("1 a c good, 2 b c defect")
	is(t, "a reel that is not there", two(inspect.Worse(l, 2, "s")), list{false, api.OK})
	is(t, "a nozzle is no reel", two(inspect.Worse(l, 2, "n")), list{false, api.OK})
	is(t, "the longest key", two(inspect.Worse(l, 2, long)), list{false, api.OK})
}

func TestTrend(t *testing.T) {
	for _, c := range []struct {
		l    string
		step int
		want []int
	}{
		{"", 1, []int{}},
		{"0 a c good", 1, []int{0}},
		{"0 a c defect", 1, []int{1}},
		{"7 a c escape", api.DayLong, []int{1}},
		{"7 a c escape, 7 a d defect, 7 b c good, 7 b d false", 1, []int{2}},
		{"3 a c defect, 5 b c defect", 1, []int{1, 0, 1}},
		{"3 a c defect, 4 b c defect", 4, []int{1, 1}},                                    // a step begins at 4
		{"4 a c defect, 7 b c defect", 4, []int{2}},                                       // and ends before 8
		{"3 a c good, 4 b c escape, 7 b d defect, 16 a d false", 4, []int{0, 2, 0, 0, 0}}, // from the first to the last look, bad or not
		{"10 a c defect, 19 b c defect, 20 d c defect", 10, []int{2, 1}},
		{fmt.Sprint(api.DayLong-1, " a c defect, ", api.DayLong, " b c defect"), api.DayLong, []int{1, 1}},
		{fmt.Sprint(api.End-2, " a c defect, ", api.End-1, " b c escape"), 1, []int{1, 1}},
	} {
		is(t, fmt.Sprint(c.step, " ", c.l), two(inspect.Trend(looks(c.l), c.step)), list{c.want, api.OK})
	}
}

// TestTrendLarge holds that there are at most MaxLooks steps.
func TestTrendLarge(t *testing.T) {
	most := looks(fmt.Sprint("10 a c defect, ", 10+api.MaxLooks-1, " b c defect"))
	trend, e := inspect.Trend(most, 1)
	is(t, "the most steps", list{len(trend), trend[0], trend[1], trend[api.MaxLooks-1], e}, list{api.MaxLooks, 1, 0, 1, api.OK})
	is(t, "one more", two(inspect.Trend(looks(fmt.Sprint("10 a c good, ", 10+api.MaxLooks, " b c good")), 1)), list{[]int{}, api.ErrLarge})
	first, last := 3, 3*api.MaxLooks+2 // in steps of 3: 1 and MaxLooks
	is(t, "steps of 3", len(two(inspect.Trend(looks(fmt.Sprint(first, " a c good, ", last, " b c good")), 3))[0].([]int)), api.MaxLooks)
	is(t, "one more", two(inspect.Trend(looks(fmt.Sprint(first, " a c good, ", last+1, " b c good")), 3)), list{[]int{}, api.ErrLarge})
	is(t, "one more", two(inspect.Trend(looks(fmt.Sprint(first-1, " a c good, ", last, " b c good")), 3)), list{[]int{}, api.ErrLarge})
	all := looks(fmt.Sprint("0 a c good, ", api.End-1, " b c good"))
	is(t, "all time", two(inspect.Trend(all, 1)), list{[]int{}, api.ErrLarge})
	trend, e = inspect.Trend(all, api.DayLong)
	is(t, "all days", list{len(trend), e}, list{api.MaxDay + 1, api.OK})
	is(t, "the number first", two(inspect.Trend(all, 0)), list{[]int{}, api.ErrArg})
}

// TestCauseErrors holds the errors of P7.3.
func TestCauseErrors(t *testing.T) {
	l := looks("1 a c good, 2 b c defect")
	for _, n := range []int{0, -1, api.MaxLooks + 1, math.MinInt, math.MaxInt} {
		for _, l := range [][]api.Look{nil, l} {
			is(t, fmt.Sprint("Positions ", n), two(inspect.Positions(l, n)), list{keys(), api.ErrArg})
			is(t, fmt.Sprint("Rows ", n), two(inspect.Rows(l, n)), list{pairs(""), api.ErrArg})
			is(t, fmt.Sprint("Suspect ", n), four(inspect.Suspect(l, n)), list{"", api.Fraction{}, false, api.ErrArg})
		}
	}
	for _, n := range []int{0, -1, api.DayLong + 1, math.MinInt, math.MaxInt} {
		is(t, fmt.Sprint("Trend ", n), two(inspect.Trend(l, n)), list{[]int{}, api.ErrArg})
		is(t, fmt.Sprint("Trend ", n), two(inspect.Trend(nil, n)), list{[]int{}, api.ErrArg})
	}
	for _, n := range outside(api.End - 1) {
		is(t, fmt.Sprint("Worse ", n), two(inspect.Worse(l, n, "r")), list{false, api.ErrArg})
		is(t, fmt.Sprint("Worse ", n), two(inspect.Worse(nil, n, "s")), list{false, api.ErrArg})
	}
	for _, key := range badKeys {
		is(t, fmt.Sprintf("Worse %q", key), two(inspect.Worse(l, 2, key)), list{false, api.ErrName})
		is(t, fmt.Sprintf("Worse %q", key), two(inspect.Worse(l, -1, key)), list{false, api.ErrName})
	}
}

// TestLooksFirst holds that functions with looks return the error of CheckLooks before all others.
func TestLooksFirst(t *testing.T) {
	for want, l := range map[api.Errno][]api.Look{
		api.ErrLarge: make([]api.Look, api.MaxLooks+1),
		api.ErrName:  looks("1 a C defect"),
		api.ErrArg:   looks("-1 a c defect"),
		api.ErrKind:  changed(looks("1 a c defect"), 0, func(k *api.Look) { k.Verdict = 6 }),
		api.ErrOrder: looks("2 a c defect, 1 b c defect"),
		api.ErrTwice: looks("1 a c defect, 2 a c defect"),
	} {
		bad := -1
		name := ""
		if want == api.ErrArg {
			bad, name = 1, "r" // so that only the looks are wrong
		}
		is(t, "Counts", two(inspect.Counts(l)), list{pairs(""), want})
		is(t, "Million", two(inspect.Million(l)), list{api.Fraction{}, want})
		is(t, "FalseCalls", two(inspect.FalseCalls(l)), list{api.Fraction{}, want})
		is(t, "Escapes", two(inspect.Escapes(l)), list{pairs(""), want})
		is(t, "GoodBoards", two(inspect.GoodBoards(l)), list{keys(), want})
		is(t, "Positions", two(inspect.Positions(l, bad)), list{keys(), want})
		is(t, "Rows", two(inspect.Rows(l, bad)), list{pairs(""), want})
		is(t, "ByMachine", two(inspect.ByMachine(l)), list{pairs(""), want})
		is(t, "Suspect", four(inspect.Suspect(l, bad)), list{"", api.Fraction{}, false, want})
		is(t, "Worse", two(inspect.Worse(l, bad, name)), list{false, want})
		is(t, "Trend", two(inspect.Trend(l, bad)), list{[]int{}, want})
		is(t, "Text", two(inspect.Text(l)), list{"", want})
	}
}
