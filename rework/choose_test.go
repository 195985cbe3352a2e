package rework_test

import (
	"fmt"
	"math"
	"math/rand"
	"slices"
	"strings"
	"testing"

	"reelfeeder/api"
	"reelfeeder/rework"
)

// works are those of words, of boards a, b, c and so on, with minutes and values: "30 60, 20 40".
func works(words string) []api.Work {
	var w []api.Work
	for i, p := range pairs(words) {
		w = append(w, api.Work{Board: string(rune('a' + i)), Minutes: number(p.Name), Value: number(p.Value)})
	}
	return w
}

func TestChoose(t *testing.T) {
	const most = "10000 1000000000"
	for _, c := range []struct {
		works   string
		minutes int
		want    []int
		value   int
	}{
		{"", 0, nil, 0},
		{"", 10_000, nil, 0},
		{"1 5", 0, nil, 0},
		{"1 5", 1, []int{0}, 5},
		{"30 60, 20 40, 20 40", 45, []int{1, 2}, 80},
		{"30 60, 20 40, 20 40", 20, []int{1}, 40}, // the first one of two
		{"30 60, 20 40, 20 40", 30, []int{0}, 60},
		{"30 60, 20 40, 20 40", 50, []int{0, 1}, 100},
		{"30 60, 20 40, 20 40", 70, []int{0, 1, 2}, 140},
		{"5 9, 4 9", 5, []int{1}, 9},              // the fewest minutes
		{"3 4, 2 2, 2 2", 4, []int{0}, 4},         // likewise
		{"2 2, 1 1, 1 1", 2, []int{0}, 2},         // {0} before {1, 2}
		{"1 1, 2 2, 1 1", 2, []int{0, 2}, 2},      // {0, 2} before {1}
		{"1 1, 1 2, 1 2, 1 1", 2, []int{1, 2}, 4}, // the greatest sum
		{"1 1, 1 1, 1 1, 1 1", 2, []int{0, 1}, 2},
		{"0 0", 5, nil, 0},              // nothing before {0}
		{"0 0, 1 1", 5, []int{0, 1}, 1}, // {0, 1} before {1}
		{"1 1, 0 0", 5, []int{0}, 1},    // {0} before {0, 1}
		{"0 5", 0, []int{0}, 5},
		{"0 5, 0 0, 0 7", 0, []int{0, 1, 2}, 12}, // {0, 1, 2} before {0, 2}
		{"5 0, 0 1", 5, []int{1}, 1},             // minutes for nothing
		{most + ", " + most, 10_000, []int{0}, 1_000_000_000},
		{"10 1000000000, 10 1000000000, 10 1000000000, 10 999999999", 30, []int{0, 1, 2}, 3_000_000_000},
	} {
		is(t, fmt.Sprint(c.works, " in ", c.minutes), three(rework.Choose(works(c.works), c.minutes)), list{c.want, c.value, api.OK})
	}
	all := works(strings.TrimSuffix(strings.Repeat("714 1000000000, ", api.MaxChoice), ", "))
	is(t, "all", three(rework.Choose(all, 10_000)), list{[]int{0, 1, 2, 3, 4, 5, 6, 7, 8, 9, 10, 11, 12, 13}, 14_000_000_000, api.OK})
	is(t, "all but one", three(rework.Choose(all, 9_995)), list{[]int{0, 1, 2, 3, 4, 5, 6, 7, 8, 9, 10, 11, 12}, 13_000_000_000, api.OK})
}

// bestWorks are the best works that go on from some: in this order the lists are tried as they compare.
func bestWorks(w []api.Work, left int, taken []int) ([]int, int, int) {
	best, value, minutes := slices.Clone(taken), 0, 0
	for _, i := range taken {
		value, minutes = value+w[i].Value, minutes+w[i].Minutes
	}
	next := 0
	if len(taken) > 0 {
		next = taken[len(taken)-1] + 1
	}
	for i := next; i < len(w); i++ {
		if w[i].Minutes > left {
			continue
		}
		l, v, m := bestWorks(w, left-w[i].Minutes, append(slices.Clone(taken), i))
		if v > value || v == value && m < minutes {
			best, value, minutes = l, v, m
		}
	}
	return best, value, minutes
}

// TestEveryChoice holds Choose against all lists of works, tried in their order.
func TestEveryChoice(t *testing.T) {
	r := rand.New(rand.NewSource(1))
	for range 3000 {
		var w []api.Work
		for i := range r.Intn(9) {
			w = append(w, api.Work{Board: fmt.Sprint("b", i), Minutes: r.Intn(5), Value: r.Intn(5)})
		}
		minutes := r.Intn(16)
		best, value, _ := bestWorks(w, minutes, nil)
		is(t, fmt.Sprint(w, minutes), three(rework.Choose(w, minutes)), list{best, value, api.OK})
	}
}

// TestChooseErrors holds the errors of Choose, and their order.
func TestChooseErrors(t *testing.T) {
	check := func(what string, w []api.Work, minutes int, want api.Errno) {
		t.Helper()
		_, _, e := rework.Choose(w, minutes)
		is(t, what, e, want)
		if want != api.OK {
			is(t, what, three(rework.Choose(w, minutes)), list{[]int{}, 0, want})
		}
	}
	good := works("1 1, 2 2")
	with := func(w api.Work) []api.Work { return append(slices.Clone(good), w) }
	many := func(n int) []api.Work {
		var w []api.Work
		for i := range n {
			w = append(w, api.Work{Board: fmt.Sprint("b", i), Minutes: i, Value: 1})
		}
		return w
	}
	check("the most", many(14), 10, api.OK)
	check("too many", many(15), 10, api.ErrLarge)
	check("too many before their errors", make([]api.Work, 15), -1, api.ErrLarge)
	check("much too many", make([]api.Work, 200_000), -1, api.ErrLarge)
	check("the longest key", with(api.Work{Board: long}), 10, api.OK)
	for _, key := range badKeys {
		check("name", with(api.Work{Board: key}), 10, api.ErrName)
		check("name first", with(api.Work{Board: key, Minutes: -1, Value: -1}), -1, api.ErrName)
	}
	for _, n := range outside(10_000) {
		check("minutes of a work", with(api.Work{Board: "z", Minutes: n}), 10, api.ErrArg)
		check("minutes before twice", with(api.Work{Board: "a", Minutes: n}), 10, api.ErrArg)
		check("minutes", good, n, api.ErrArg)
		check("minutes of nothing", nil, n, api.ErrArg)
		check("twice before minutes", with(api.Work{Board: "a"}), n, api.ErrTwice)
	}
	for _, n := range outside(1_000_000_000) {
		check("value", with(api.Work{Board: "z", Value: n}), 10, api.ErrArg)
		check("value before twice", with(api.Work{Board: "b", Value: n}), 10, api.ErrArg)
	}
	check("the greatest", with(api.Work{Board: "z", Minutes: 10_000, Value: 1_000_000_000}), 10_000, api.OK)
	check("twice", with(api.Work{Board: "a"}), 10, api.ErrTwice)
	check("twice", with(api.Work{Board: "b", Minutes: 2, Value: 2}), 10, api.ErrTwice)
	check("twice before the next one", append(with(api.Work{Board: "a"}), api.Work{}), 10, api.ErrTwice)
	check("a number before the next one", append(with(api.Work{Board: "c", Value: math.MinInt}), api.Work{}), 10, api.ErrArg)
}
