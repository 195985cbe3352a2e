package line_test

import (
	"fmt"
	"math/rand"
	"slices"
	"testing"

	"reelfeeder/api"
	"reelfeeder/line"
)

// cyclesOf are the cycles of all machines, as P5.2 says them.
func cyclesOf(m []api.Machine, n []api.Need, plan []int) []int {
	var cycles []int
	for k, machine := range m {
		cycle := machine.Fixed
		for i := range plan {
			if plan[i] == k {
				cycle += machine.Each * n[i].Many
			}
		}
		cycles = append(cycles, cycle)
	}
	return cycles
}

func TestCycles(t *testing.T) {
	for _, c := range []struct {
		what, m, n, plan, want string
		slowest, longest       int
	}{
		{"two machines", "m1 2 5 2 a b c, m2 3 1 2 a b", "a 4, b 3, c 2", "1 0 0", "15 13", 0, 15},
		{"the second one", "m1 2 5 2 a b c, m2 3 1 2 a b", "a 4, b 3, c 2", "1 1 0", "9 22", 1, 22},
		{"the first one of several", "m1 1 0 1 a, m2 3 0 1 b, m3 1 6 0", "a 1, b 2", "0 1", "1 6 6", 1, 6},
		{"no needs", "m1 7 5 2, m2 9 6 2", "", "", "5 6", 1, 6},
		{"nothing to do", "m1 7 0 2, m2 9 0 2", "", "", "0 0", 0, 0},
		{"at once", "m1 0 3 2 a b", "a 4, b 9", "0 0", "3", 0, 3},
		{"the greatest numbers", "m1 10000000 10000000 100 a b", "a 1000, b 1000", "0 0", "20010000000", 0, 20_010_000_000},
	} {
		m, n, plan := machines(c.m), needs(c.n), numbers(c.plan)
		is(t, c.what, two(line.Cycles(m, n, plan)), list{numbers(c.want), api.OK})
		is(t, c.what, three(line.Slowest(m, n, plan)), list{c.slowest, c.longest, api.OK})
	}
}

// TestEveryCycle holds Cycles and Slowest against P5.2.
func TestEveryCycle(t *testing.T) {
	r := rand.New(rand.NewSource(2))
	for range 300 {
		m, n := anyLine(r, 4, 4)
		eachPlan(len(m), len(n), nil, func(plan []int) {
			if planError(m, n, plan) != api.OK {
				return
			}
			cycles := cyclesOf(m, n, plan)
			longest := slices.Max(cycles)
			is(t, "cycles", two(line.Cycles(m, n, plan)), list{cycles, api.OK})
			is(t, "slowest", three(line.Slowest(m, n, plan)), list{slices.Index(cycles, longest), longest, api.OK})
		})
	}
}

func TestBound(t *testing.T) {
	for _, c := range []struct {
		what, m, n string
		want       int
	}{
		{"the average", "m1 2 5 2 a b c, m2 3 1 2 a b", "a 4, b 3, c 2", 12},
		{"rounded up", "m1 2 0 2 a b, m2 2 0 2 a b, m3 2 0 2 a b", "a 4, b 3", 5},
		{"nothing to round", "m1 2 0 2 a b, m2 2 1 2 a b, m3 2 0 2 a b", "a 4, b 3", 5},
		{"one more", "m1 2 0 2 a b, m2 2 1 2 a b, m3 2 1 2 a b", "a 4, b 3", 6},
		{"the longest Fixed", "m1 2 3 2 a b, m2 2 90 2 a b", "a 4, b 3", 90},
		{"the least Each of those that can place it", "m1 9 0 2 a b, m2 4 0 2 a, m3 1 0 2", "a 3, b 2", 10},
		{"the first one has the least Each", "m1 1 0 2 a, m2 4 0 2 a", "a 8", 4},
		{"left out", "m1 9 0 2 a b", "a 3, c 100", 27},
		{"all left out", "m1 9 3 2, m2 4 5 2", "a 3, c 100", 5},
		{"no needs", "m1 9 3 2, m2 4 4 2", "", 4},
		{"Each of 0", "m1 0 3 2 a, m2 4 4 2 a", "a 9", 4},
		{"feeders do not count", "m1 1 0 0 a, m2 5 0 1 a", "a 2", 1},
		{"one machine", "m1 3 2 1 a", "a 4", 14},
	} {
		is(t, c.what, two(line.Bound(machines(c.m), needs(c.n))), list{c.want, api.OK})
	}
	m := []api.Machine{{Key: "m", Each: api.MaxTime, Fixed: api.MaxTime, Can: names("p", api.MaxPlacements)}}
	n := manyNeeds(api.MaxPlacements)
	for i := range n {
		n[i].Many = api.MaxPlacements
	}
	is(t, "the greatest numbers", two(line.Bound(m, n)), list{api.MaxTime * (1 + api.MaxPlacements*api.MaxPlacements), api.OK})
}

// TestEveryBound holds Bound and Nobody against P5.2, and that no plan is faster.
func TestEveryBound(t *testing.T) {
	r := rand.New(rand.NewSource(3))
	for range 500 {
		m, n := anyLine(r, 4, 4)
		var parts []string
		sum, longest := 0, 0
		for _, machine := range m {
			sum += machine.Fixed
			longest = max(longest, machine.Fixed)
		}
		for _, need := range n {
			var each []int
			for _, machine := range m {
				if slices.Contains(machine.Can, need.Part) {
					each = append(each, machine.Each)
				}
			}
			if len(each) == 0 {
				parts = append(parts, need.Part)
			} else {
				sum += need.Many * slices.Min(each)
			}
		}
		for longest*len(m) < sum {
			longest++
		}
		what := fmt.Sprint(m, n)
		is(t, "bound "+what, two(line.Bound(m, n)), list{longest, api.OK})
		is(t, "nobody "+what, two(line.Nobody(m, n)), list{parts, api.OK})
		eachPlan(len(m), len(n), nil, func(plan []int) {
			_, slow, e := line.Slowest(m, n, plan)
			is(t, "faster "+what, e == api.OK && slow < longest, false)
		})
	}
}

func TestNobody(t *testing.T) {
	for _, c := range []struct {
		what, m, n string
		want       []string
	}{
		{"one", "m1 2 5 2 a b c, m2 3 1 2 a b", "a 4, b 3, c 2, z 1", []string{"z"}},
		{"rising", "m1 2 5 2 b, m2 3 1 2 d", "a 4, b 3, c 2, d 1, e 1", []string{"a", "c", "e"}},
		{"none", "m1 2 5 2 b, m2 3 1 2 a", "a 4, b 3", nil},
		{"no needs", "m1 2 5 2 b", "", nil},
		{"without feeders", "m1 2 5 0 a", "a 4", nil},
		{"all", "m1 2 5 2", "a 4, b 1", []string{"a", "b"}},
	} {
		is(t, c.what, two(line.Nobody(machines(c.m), needs(c.n))), list{c.want, api.OK})
	}
}
