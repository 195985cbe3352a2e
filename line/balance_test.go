package line_test

import (
	"fmt"
	"math"
	"math/rand"
	"slices"
	"testing"

	"reelfeeder/api"
	"reelfeeder/line"
)

func TestBalance(t *testing.T) {
	for _, c := range []struct {
		what, m, n, plan string
		longest          int
		found            bool
	}{
		{"two machines", "m1 2 5 2 a b c, m2 3 1 2 a b", "a 4, b 3, c 2", "1 0 0", 15, true},
		{"the least of several", "m1 1 0 9 a b, m2 1 0 9 a b", "a 3, b 3", "0 1", 3, true},
		{"the least, element by element", "m1 1 9 9 a b c, m2 1 0 9 a b c", "a 1, b 5, c 4", "0 1 1", 10, true},
		{"the first elements first", "m1 1 0 9 a b c, m2 1 0 9 a b c, m3 1 4 9 a b c", "a 1, b 1, c 4", "0 0 1", 4, true},
		{"room before speed", "m1 1 0 1 a b c, m2 9 0 2 a b c", "a 5, b 1, c 1", "0 1 1", 18, true},
		{"who can place it", "m1 1 0 9 b, m2 9 0 9 a", "a 5, b 1", "1 0", 45, true},
		{"no needs", "m1 1 3 9, m2 9 5 9 a", "", "", 5, true},
		{"Fixed is longest", "m1 1 30 9 a, m2 9 5 9 a", "a 2", "1", 30, true},
		{"Each of 0", "m1 0 2 9 a b, m2 1 0 9 a b", "a 1, b 1000", "0 0", 2, true},
		{"nobody can place it", "m1 1 3 9 a, m2 9 5 9 a", "a 1, b 1", "", 0, false},
		{"too few feeders", "m1 1 3 1 a b c, m2 9 5 1 a b c", "a 1, b 1, c 1", "", 0, false},
		{"the wrong feeders", "m1 1 3 1 a b, m2 9 5 9 c", "a 1, b 1, c 1", "", 0, false},
		{"no feeders", "m1 1 3 0 a", "a 1", "", 0, false},
		{"one machine", "m1 2 3 2 a b", "a 1, b 5", "0 0", 15, true},
	} {
		is(t, c.what, four(line.Balance(machines(c.m), needs(c.n))), list{numbers(c.plan), c.longest, c.found, api.OK})
	}
}

// TestBalanceBound holds that Balance has at most MaxAssigned needs, and that it says so at the end.
func TestBalanceBound(t *testing.T) {
	n := manyNeeds(api.MaxAssigned + 1)
	m := []api.Machine{{Key: "m", Each: 1, Feeders: api.MaxSetup, Can: names("p", api.MaxAssigned+1)}}
	is(t, "so many", four(line.Balance(m, n[:api.MaxAssigned])), list{make([]int, api.MaxAssigned), api.MaxAssigned, true, api.OK})
	is(t, "one more", four(line.Balance(m, n)), list{[]int{}, 0, false, api.ErrLarge})
	is(t, "one more, without a plan", four(line.Balance(machines("m 1 1 1"), n)), list{[]int{}, 0, false, api.ErrLarge})
	is(t, "as many as there can be", four(line.Balance(m, manyNeeds(api.MaxPlacements))), list{[]int{}, 0, false, api.ErrLarge})
	n[api.MaxAssigned].Many = 0
	is(t, "numbers first", four(line.Balance(m, n)), list{[]int{}, 0, false, api.ErrArg})
	is(t, "machines first", four(line.Balance(nil, n)), list{[]int{}, 0, false, api.ErrNone})
}

// TestEveryPlan holds Balance against all plans.
func TestEveryPlan(t *testing.T) {
	r := rand.New(rand.NewSource(4))
	none := 0
	for i := range 1500 {
		many := 1 + r.Intn(6)
		if i%50 == 0 {
			many = 9
		}
		m, n := anyLine(r, 4, many)
		var best []int
		least := math.MaxInt
		eachPlan(len(m), len(n), nil, func(plan []int) {
			if planError(m, n, plan) == api.OK && slices.Max(cyclesOf(m, n, plan)) < least {
				best, least = plan, slices.Max(cyclesOf(m, n, plan))
			}
		})
		want := list{best, least, true, api.OK}
		if least == math.MaxInt {
			want = list{best, 0, false, api.OK}
			none++
		}
		is(t, fmt.Sprint("balance of ", m, n), four(line.Balance(m, n)), want)
	}
	if none < 100 || none > 1000 {
		t.Error("lines without a plan:", none)
	}
}

// TestLargestBalance holds that the most needs are given to the most machines soon, and rightly where this can be told.
func TestLargestBalance(t *testing.T) {
	r := rand.New(rand.NewSource(5))
	parts := names("p", api.MaxAssigned)
	for i := range 20 {
		n := manyNeeds(api.MaxAssigned)
		var m []api.Machine
		for k := range api.MaxMachines {
			m = append(m, api.Machine{Key: fmt.Sprint("m", k), Each: 1, Feeders: 2 + r.Intn(11), Can: parts})
		}
		if i == 0 {
			is(t, "pairs", four(line.Balance(m, n)), list{numbers("0 0 1 1 2 2 3 3 4 4 5 5"), 2, true, api.OK})
		}
		for k := range m {
			m[k].Each, m[k].Fixed = r.Intn(api.MaxTime+1), r.Intn(api.MaxTime+1)
		}
		for k := range n {
			n[k].Many = 1 + r.Intn(api.MaxPlacements)
		}
		plan, longest, found, e := line.Balance(m, n)
		is(t, "balance", list{found, e, planError(m, n, plan), longest}, list{true, api.OK, api.OK, slices.Max(cyclesOf(m, n, plan))})
		least, _ := line.Bound(m, n)
		first, _, _ := line.First(m, n)
		is(t, "from Bound to First", least <= longest && longest <= slices.Max(cyclesOf(m, n, first)), true)
		is(t, "better", four(line.Better(m, n, plan)), list{0, 0, false, api.OK})
	}
}
