package line_test

import (
	"fmt"
	"math"
	"math/rand"
	"slices"
	"strconv"
	"strings"
	"testing"

	"reelfeeder/api"
	"reelfeeder/line"
)

type list = []any

// is compares values; a nil list is the same as an empty one.
func is(t *testing.T, what string, got, want any) {
	t.Helper()
	if g, w := fmt.Sprintf("%v", got), fmt.Sprintf("%v", want); g != w {
		t.Errorf("%s: got %.300s, want %.300s", what, g, w)
	}
}

// two, three and four are the results of a call as a list.
func two[A any](a A, e api.Errno) list { return list{a, e} }

func three[A, B any](a A, b B, e api.Errno) list { return list{a, b, e} }

func four[A, B, C any](a A, b B, c C, e api.Errno) list { return list{a, b, c, e} }

func number(s string) int {
	n, err := strconv.Atoi(s)
	if err != nil {
		panic(err)
	}
	return n
}

func numbers(words string) []int {
	var l []int
	for _, s := range strings.Fields(words) {
		l = append(l, number(s))
	}
	return l
}

// machines are those of words: "m1 2 5 3 a b" has Each 2, Fixed 5, Feeders 3, and can place a and b.
func machines(words string) []api.Machine {
	var m []api.Machine
	for _, s := range strings.Split(words, ",") {
		w := strings.Fields(s)
		m = append(m, api.Machine{Key: w[0], Each: number(w[1]), Fixed: number(w[2]), Feeders: number(w[3]), Can: w[4:]})
	}
	return m
}

// needs are those of words: "a 4, b 3" are 4 of a, and 3 of b.
func needs(words string) []api.Need {
	var n []api.Need
	for _, s := range strings.Split(words, ",") {
		if w := strings.Fields(s); len(w) == 2 {
			n = append(n, api.Need{Part: w[0], Many: number(w[1])})
		}
	}
	return n
}

// names are so many rising keys.
func names(start string, many int) []string {
	var l []string
	for i := range many {
		l = append(l, fmt.Sprintf("%s%06d", start, i))
	}
	return l
}

// manyNeeds are needs of so many parts.
func manyNeeds(many int) []api.Need {
	var n []api.Need
	for _, part := range names("p", many) {
		n = append(n, api.Need{Part: part, Many: 1})
	}
	return n
}

// anyLine are so many machines at most, and so many needs at most; some parts are those of no machine.
func anyLine(r *rand.Rand, machines, needs int) ([]api.Machine, []api.Need) {
	size := 1 + r.Intn(12)
	letters := "abcdefghijklmnopqrstuvwxyz"[:1+r.Intn(needs+2)]
	var m []api.Machine
	for k := range 1 + r.Intn(machines) {
		one := api.Machine{Key: fmt.Sprint("m", k), Each: r.Intn(size), Fixed: r.Intn(3 * size), Feeders: r.Intn(needs + 2)}
		for _, l := range letters {
			if r.Intn(4) > 0 {
				one.Can = append(one.Can, string(l))
			}
		}
		m = append(m, one)
	}
	var n []api.Need
	for _, l := range letters {
		if len(n) < needs && r.Intn(8) > 0 {
			n = append(n, api.Need{Part: string(l), Many: 1 + r.Intn(size)})
		}
	}
	return m, n
}

// planError is what is wrong with a plan, as P5.1 says it.
func planError(m []api.Machine, n []api.Need, plan []int) api.Errno {
	if len(plan) != len(n) {
		return api.ErrForm
	}
	parts := map[int]int{}
	for i, k := range plan {
		if k < 0 || k >= len(m) {
			return api.ErrNone
		}
		if !slices.Contains(m[k].Can, n[i].Part) {
			return api.ErrKind
		}
		parts[k]++
	}
	for k := range m {
		if parts[k] > m[k].Feeders {
			return api.ErrFull
		}
	}
	return api.OK
}

// eachPlan tells all lists of machines for needs, the least one first.
func eachPlan(machines, needs int, plan []int, tell func([]int)) {
	if len(plan) == needs {
		tell(slices.Clone(plan))
		return
	}
	for k := range machines {
		eachPlan(machines, needs, append(plan, k), tell)
	}
}

// bad are names that are no keys.
var bad = []string{"", "A", "1a", "-", " a", "a ", "a\n", "\xff", "é", strings.Repeat("k", api.MaxName+1)}

// beyond are numbers that are not from 0 to most.
func beyond(most int) []int { return []int{-1, most + 1, math.MinInt, math.MaxInt} }

// TestCheckMachines holds P5.1: what machines are.
func TestCheckMachines(t *testing.T) {
	long := strings.Repeat("k", api.MaxName)
	full := names("p", api.MaxPlacements)
	for _, c := range []struct {
		what string
		m    []api.Machine
		want api.Errno
	}{
		{"nil", nil, api.ErrNone},
		{"none", []api.Machine{}, api.ErrNone},
		{"one", machines("m1 2 5 2 a b c"), api.OK},
		{"nothing but a key", []api.Machine{{Key: "m"}}, api.OK},
		{"falling keys", machines("m2 0 0 0, m1 0 0 0"), api.OK},
		{"as many as there can be", machines("f 0 0 0, e 0 0 0, d 0 0 0, c 0 0 0, b 0 0 0, a 0 0 0"), api.OK},
		{"one more", machines("f 0 0 0, e 0 0 0, d 0 0 0, c 0 0 0, b 0 0 0, a 0 0 0, g 0 0 0"), api.ErrLarge},
		{"too many, without keys", make([]api.Machine, api.MaxMachines+1), api.ErrLarge},
		{"much too many", make([]api.Machine, 200_000), api.ErrLarge},
		{"the longest key", []api.Machine{{Key: long}}, api.OK},
		{"twice", machines("m1 0 0 0, m2 0 0 0, m1 0 0 0"), api.ErrTwice},
		{"twice before numbers", machines("m1 0 0 0, m1 -1 0 0"), api.ErrTwice},
		{"no key before twice", []api.Machine{{Key: "A"}, {Key: "A"}}, api.ErrName},
		{"the greatest numbers", machines("m 10000000 10000000 100"), api.OK},
		{"numbers before too many parts", []api.Machine{{Key: "m", Fixed: -1, Can: names("p", api.MaxPlacements+1)}}, api.ErrArg},
		{"as many parts as there can be", []api.Machine{{Key: "m", Can: full}}, api.OK},
		{"one part more", []api.Machine{{Key: "m", Can: append(full[:api.MaxPlacements:api.MaxPlacements], "q")}}, api.ErrLarge},
		{"one part more, which is no key", []api.Machine{{Key: "m", Can: append(full[:api.MaxPlacements:api.MaxPlacements], "")}}, api.ErrLarge},
		{"much too many parts", []api.Machine{{Key: "m", Can: make([]string, 200_000)}}, api.ErrLarge},
		{"falling parts", machines("m 0 0 0 a c b"), api.ErrOrder},
		{"the same part", machines("m 0 0 0 a b b"), api.ErrOrder},
		{"parts by bytes", machines("m 0 0 0 a-1 a1 a_1"), api.OK},
		{"a falling part before one that is no key", machines("m 0 0 0 b a A"), api.ErrOrder},
		{"a part that is no key before a falling one", machines("m 0 0 0 b A a"), api.ErrName},
		{"the first machine first", machines("m1 0 0 0 b a, m1 0 0 0"), api.ErrOrder},
		{"the number of machine two before the parts of three", machines("m1 0 0 0, m2 0 0 101, m3 0 0 0 A"), api.ErrArg},
	} {
		is(t, c.what, line.CheckMachines(c.m), c.want)
	}
	for _, s := range bad {
		is(t, "key "+s, line.CheckMachines([]api.Machine{{Key: "m"}, {Key: s, Each: -1}}), api.ErrName)
		is(t, "part "+s, line.CheckMachines([]api.Machine{{Key: "m", Can: []string{s}}}), api.ErrName)
	}
	for _, n := range beyond(api.MaxTime) {
		is(t, "each", line.CheckMachines([]api.Machine{{Key: "m", Each: n}}), api.ErrArg)
		is(t, "fixed", line.CheckMachines([]api.Machine{{Key: "m", Fixed: n}}), api.ErrArg)
	}
	for _, n := range beyond(api.MaxSetup) {
		is(t, "feeders", line.CheckMachines([]api.Machine{{Key: "m", Feeders: n}}), api.ErrArg)
	}
}

// TestCheckNeeds holds P5.1: what needs are.
func TestCheckNeeds(t *testing.T) {
	for _, c := range []struct {
		what string
		n    []api.Need
		want api.Errno
	}{
		{"none", nil, api.OK},
		{"some", needs("a 4, b 1, c 1000"), api.OK},
		{"by bytes", needs("a-1 1, a1 1, a_1 1"), api.OK},
		{"as many as there can be", manyNeeds(api.MaxPlacements), api.OK},
		{"one more", manyNeeds(api.MaxPlacements + 1), api.ErrLarge},
		{"much too many, without names", make([]api.Need, 200_000), api.ErrLarge},
		{"falling", needs("b 1, a 1"), api.ErrOrder},
		{"the same", needs("a 1, a 1"), api.ErrOrder},
		{"order before number", needs("a 1, a 0"), api.ErrOrder},
		{"name before order", needs("b 1, A 0"), api.ErrName},
		{"number before the next one's order", needs("b 0, a 1"), api.ErrArg},
		{"none of a part", needs("a 0"), api.ErrArg},
	} {
		is(t, c.what, line.CheckNeeds(c.n), c.want)
	}
	for _, s := range bad {
		is(t, "part "+s, line.CheckNeeds([]api.Need{{Part: s, Many: 1}}), api.ErrName)
	}
	for _, n := range beyond(api.MaxPlacements) {
		is(t, "many", line.CheckNeeds([]api.Need{{Part: "a", Many: n}}), api.ErrArg)
	}
}

// TestFirstErrors holds that machines and needs come first, in this order, and that no value comes with an error.
func TestFirstErrors(t *testing.T) {
	good := machines("m 1 1 20")
	for _, c := range []struct {
		what string
		m    []api.Machine
		n    []api.Need
		want api.Errno
	}{
		{"no machines", nil, needs("A 1"), api.ErrNone},
		{"too many machines", make([]api.Machine, api.MaxMachines+1), nil, api.ErrLarge},
		{"machine", machines("m 1 1 20 b a"), make([]api.Need, api.MaxPlacements+1), api.ErrOrder},
		{"too many needs", good, manyNeeds(api.MaxPlacements + 1), api.ErrLarge},
		{"name", good, append(manyNeeds(20), api.Need{Part: "Q", Many: 1}), api.ErrName},
		{"order", good, needs("b 1, a 1"), api.ErrOrder},
		{"number", good, needs("b 1001"), api.ErrArg},
	} {
		for _, plan := range [][]int{nil, {7}, make([]int, len(c.n))} {
			is(t, c.what, two(line.Cycles(c.m, c.n, plan)), list{[]int{}, c.want})
			is(t, c.what, three(line.Slowest(c.m, c.n, plan)), list{0, 0, c.want})
			is(t, c.what, four(line.Better(c.m, c.n, plan)), list{0, 0, false, c.want})
		}
		is(t, c.what, four(line.Balance(c.m, c.n)), list{[]int{}, 0, false, c.want})
		is(t, c.what, three(line.First(c.m, c.n)), list{[]int{}, false, c.want})
		is(t, c.what, two(line.Bound(c.m, c.n)), list{0, c.want})
		is(t, c.what, two(line.Nobody(c.m, c.n)), list{[]string{}, c.want})
	}
}

// TestPlanErrors holds P5.1: what plans are.
func TestPlanErrors(t *testing.T) {
	m := machines("m1 2 5 2 a b c, m2 3 1 1 a b, m3 1 1 0 a")
	n := needs("a 4, b 3, c 2")
	for _, c := range []struct {
		what string
		plan []int
		want api.Errno
	}{
		{"good", []int{1, 0, 0}, api.OK},
		{"no plan", nil, api.ErrForm},
		{"too short", []int{7, 7}, api.ErrForm},
		{"too long", []int{1, 0, 0, 0}, api.ErrForm},
		{"much too long", make([]int, 200_000), api.ErrForm},
		{"below 0", []int{1, -1, 0}, api.ErrNone},
		{"no machine", []int{1, 0, 3}, api.ErrNone},
		{"the least", []int{math.MinInt, 0, 0}, api.ErrNone},
		{"the greatest", []int{math.MaxInt, 0, 0}, api.ErrNone},
		{"cannot place it", []int{0, 0, 1}, api.ErrKind},
		{"cannot place it before no machine", []int{0, 2, 3}, api.ErrKind},
		{"no machine before cannot place it", []int{0, 3, 2}, api.ErrNone},
		{"full", []int{0, 0, 0}, api.ErrFull},
		{"the second machine full", []int{1, 1, 0}, api.ErrFull},
		{"no feeders", []int{2, 1, 0}, api.ErrFull},
		{"full at the end", []int{1, 1, 1}, api.ErrKind},
	} {
		_, e := line.Cycles(m, n, c.plan)
		is(t, c.what, e, c.want)
		_, _, e = line.Slowest(m, n, c.plan)
		is(t, c.what, e, c.want)
		_, _, _, e = line.Better(m, n, c.plan)
		is(t, c.what, e, c.want)
		if c.want != api.OK {
			is(t, c.what, two(line.Cycles(m, n, c.plan)), list{[]int{}, c.want})
			is(t, c.what, three(line.Slowest(m, n, c.plan)), list{0, 0, c.want})
			is(t, c.what, four(line.Better(m, n, c.plan)), list{0, 0, false, c.want})
		}
	}
	is(t, "a plan of nothing", two(line.Cycles(m, nil, nil)), list{[]int{5, 1, 1}, api.OK})
	is(t, "too much for nothing", two(line.Cycles(m, nil, []int{0})), list{[]int{}, api.ErrForm})
}

// TestEveryPlanError holds the errors of plans against P5.1.
func TestEveryPlanError(t *testing.T) {
	r := rand.New(rand.NewSource(1))
	seen := map[api.Errno]int{}
	for range 5000 {
		m, n := anyLine(r, 4, 4)
		var plan []int
		for range n {
			plan = append(plan, r.Intn(len(m)))
		}
		switch r.Intn(20) {
		case 0:
			plan = append(plan, 0)
		case 1:
			if len(plan) > 0 {
				plan[r.Intn(len(plan))] = beyond(len(m) - 1)[r.Intn(4)]
			}
		}
		want := planError(m, n, plan)
		seen[want]++
		_, e := line.Cycles(m, n, plan)
		is(t, fmt.Sprint("plan ", m, n, plan), e, want)
	}
	for _, e := range []api.Errno{api.OK, api.ErrForm, api.ErrNone, api.ErrKind, api.ErrFull} {
		if seen[e] < 50 {
			t.Errorf("error %d: only %d plans", e, seen[e])
		}
	}
}
