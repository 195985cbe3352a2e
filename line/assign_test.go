package line_test

import (
	"fmt"
	"math"
	"math/rand"
	"slices"
	"testing"

	"reelfeeder/api"
	"reelfeeder/line"
)

func TestFirst(t *testing.T) {
	for _, c := range []struct {
		what, m, n, plan string
		found            bool
	}{
		{"the greatest first", "m1 2 5 2 a b c, m2 3 1 2 a b", "a 4, b 3, c 2", "0 1 0", true},
		{"of equal ones by part", "m1 1 0 9 a b, m2 2 0 9 a b", "a 2, b 2", "0 0", true},
		{"of equal ones by part, then full", "m1 1 0 1 a b, m2 2 0 9 a b", "a 2, b 2", "0 1", true},
		{"the greatest, then full", "m1 1 0 1 a b, m2 2 0 9 a b", "a 2, b 3", "1 0", true},
		{"the first machine of several", "m1 1 0 9 a, m2 1 0 9 a", "a 2", "0", true},
		{"least with it, not without it", "m1 5 0 9 a, m2 1 3 9 a", "a 2", "1", true},
		{"the cycle, not the longest one", "m1 1 9 9 a, m2 1 2 9 a, m3 1 1 9 a", "a 2", "2", true},
		{"who can place it", "m1 1 0 9 a, m2 9 9 9 a b", "a 2, b 1", "0 1", true},
		{"no needs", "m1 1 0 9 a", "", "", true},
		{"nobody can place it", "m1 1 0 9 a, m2 9 9 9 a", "a 2, b 1", "", false},
		{"no free feeder", "m1 1 0 1 a b", "a 2, b 1", "", false},
		{"no free feeder, though there is a plan", "m1 1 0 1 a b, m2 9 0 9 a", "a 2, b 1", "", false},
		{"slower than it can be", "m1 1 0 9 a b c d e, m2 1 0 9 a b c d e", "a 3, b 3, c 2, d 2, e 2", "0 1 0 1 0", true},
	} {
		is(t, c.what, three(line.First(machines(c.m), needs(c.n))), list{numbers(c.plan), c.found, api.OK})
	}
}

// firstInSteps does what P5.2 says, one need after the other.
func firstInSteps(m []api.Machine, n []api.Need) ([]int, bool) {
	plan := make([]int, len(n))
	for i := range plan {
		plan[i] = -1
	}
	for range n {
		next := -1
		for i := range n {
			if plan[i] < 0 && (next < 0 || n[i].Many > n[next].Many) {
				next = i
			}
		}
		to, least := -1, math.MaxInt
		for k := range m {
			had := 0
			for _, other := range plan {
				if other == k {
					had++
				}
			}
			plan[next] = k
			if cycle := cyclesOf(m, n, plan)[k]; cycle < least && had < m[k].Feeders && slices.Contains(m[k].Can, n[next].Part) {
				to, least = k, cycle
			}
		}
		if to < 0 {
			return nil, false
		}
		plan[next] = to
	}
	return plan, true
}

// TestEveryFirst holds First against P5.2 in steps, and that its plans are plans.
func TestEveryFirst(t *testing.T) {
	r := rand.New(rand.NewSource(6))
	found := 0
	for range 3000 {
		m, n := anyLine(r, 6, 24)
		plan, ok := firstInSteps(m, n)
		what := fmt.Sprint("first of ", m, n)
		is(t, what, three(line.First(m, n)), list{plan, ok, api.OK})
		if ok {
			found++
			is(t, what, planError(m, n, plan), api.OK)
		}
	}
	if found < 500 {
		t.Error("too few plans:", found)
	}
}

func TestBetter(t *testing.T) {
	for _, c := range []struct {
		what, m, n, plan string
		need, machine    int
		found            bool
	}{
		{"none", "m1 2 5 2 a b c, m2 3 1 2 a b", "a 4, b 3, c 2", "0 1 0", 0, 0, false},
		{"the least need, not the best one", "m1 1 0 9 a b c, m2 1 0 9 a b c", "a 1, b 5, c 2", "0 0 0", 0, 1, true},
		{"the best machine", "m1 9 0 9 a, m2 5 0 9 a, m3 2 0 9 a, m4 3 0 9 a", "a 2", "0", 0, 2, true},
		{"the first machine of several", "m1 9 0 9 a, m2 5 0 9 a, m3 2 0 9 a, m4 2 0 9 a", "a 2", "0", 0, 2, true},
		{"the first machine, if all are slow alike", "m1 9 0 9 a, m2 5 0 9 a, m3 2 0 9 a, m4 0 12 0", "a 2", "0", 0, 1, true},
		{"as long is not shorter", "m1 1 0 9 a, m2 1 0 9 a", "a 2", "0", 0, 0, false},
		{"another one is as slow", "m1 1 0 9 a b, m2 1 9 9 a b", "a 4, b 5", "0 0", 0, 0, false},
		{"no free feeder", "m1 9 0 9 a, m2 1 0 0 a, m3 2 0 9 a", "a 2", "0", 0, 2, true},
		{"who can place it", "m1 9 0 9 a b, m2 1 0 9 b, m3 2 0 9 a", "a 2, b 7", "0 0", 0, 2, true},
		{"a later need", "m1 9 0 9 a b, m2 1 0 9 b", "a 2, b 7", "0 0", 1, 1, true},
		{"not of the slowest machine", "m1 1 0 9 a b, m2 9 0 9 a b", "a 1, b 7", "0 1", 1, 0, true},
		{"no needs", "m1 9 0 9 a b, m2 1 0 9 b", "", "", 0, 0, false},
		{"one machine", "m1 9 0 9 a b", "a 1, b 1", "0 0", 0, 0, false},
		{"two changes would be needed", "m1 1 0 1 a b, m2 5 0 1 a b", "a 1, b 9", "0 1", 0, 0, false},
	} {
		is(t, c.what, four(line.Better(machines(c.m), needs(c.n), numbers(c.plan))), list{c.need, c.machine, c.found, api.OK})
	}
}

// betterOfAll is the first change that makes the longest cycle shorter, of all changes.
func betterOfAll(m []api.Machine, n []api.Need, plan []int) (int, int, bool) {
	for i := range plan {
		to, least := -1, slices.Max(cyclesOf(m, n, plan))
		for k := range m {
			changed := slices.Clone(plan)
			changed[i] = k
			if planError(m, n, changed) != api.OK {
				continue
			}
			if longest := slices.Max(cyclesOf(m, n, changed)); longest < least {
				to, least = k, longest
			}
		}
		if to >= 0 {
			return i, to, true
		}
	}
	return 0, 0, false
}

// TestEveryBetter holds Better against all changes.
func TestEveryBetter(t *testing.T) {
	r := rand.New(rand.NewSource(7))
	some, none := 0, 0
	for some+none < 3000 {
		m, n := anyLine(r, 6, 8)
		var plan []int
		for range n {
			plan = append(plan, r.Intn(len(m)))
		}
		if planError(m, n, plan) != api.OK {
			continue
		}
		need, machine, found := betterOfAll(m, n, plan)
		is(t, fmt.Sprint("better of ", m, n, plan), four(line.Better(m, n, plan)), list{need, machine, found, api.OK})
		if found {
			some++
		} else {
			none++
		}
	}
	if some < 300 || none < 300 {
		t.Error("better:", some, "not:", none)
	}
}

// TestLargestPlan holds that the most needs and machines are done soon.
func TestLargestPlan(t *testing.T) {
	var m []api.Machine
	for k := range api.MaxMachines {
		m = append(m, api.Machine{Key: fmt.Sprint("m", k), Each: 1, Feeders: api.MaxSetup, Can: names("p", api.MaxPlacements)})
	}
	n := manyNeeds(api.MaxPlacements)
	is(t, "more than all feeders", three(line.First(m, n)), list{[]int{}, false, api.OK})
	n = n[:api.MaxMachines*api.MaxSetup]
	plan, found, e := line.First(m, n)
	is(t, "first", list{len(plan), found, e, planError(m, n, plan)}, list{len(n), true, api.OK, api.OK})
	is(t, "slowest", three(line.Slowest(m, n, plan)), list{0, api.MaxSetup, api.OK})
	is(t, "better", four(line.Better(m, n, plan)), list{0, 0, false, api.OK})
}
