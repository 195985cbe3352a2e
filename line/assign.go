package line

import (
	"cmp"
	"math"
	"slices"

	"reelfeeder/api"
)

// First is the plan by the rule of thumb.
func First(m []api.Machine, n []api.Need) ([]int, bool, api.Errno) {
	if e := check(m, n); e != api.OK {
		return nil, false, e
	}
	plan, found := first(m, n)
	return plan, found, api.OK
}

func first(m []api.Machine, n []api.Need) ([]int, bool) {
	plan := make([]int, len(n))
	all := loads(m, n, nil)
	for _, i := range greatestFirst(n) {
		k, found := quickest(m, all, n[i])
		if !found {
			return nil, false
		}
		plan[i] = k
		all[k] = all[k].with(m[k], n[i])
	}
	return plan, true
}

// greatestFirst are the indices of needs, the greatest one first; those that are as great stay in the order of parts.
func greatestFirst(n []api.Need) []int {
	var order []int
	for i := range n {
		order = append(order, i)
	}
	slices.SortStableFunc(order, func(a, b int) int { return cmp.Compare(n[b].Many, n[a].Many) })
	return order
}

// quickest is the machine that takes a need, and has the least cycle with it.
func quickest(m []api.Machine, all []load, n api.Need) (int, bool) {
	quick, least := 0, math.MaxInt
	for k, machine := range m {
		if !all[k].takes(machine, n) {
			continue
		}
		if cycle := all[k].with(machine, n).cycle; cycle < least {
			quick, least = k, cycle
		}
	}
	return quick, least < math.MaxInt
}

// Better is the first change of one element of a plan that makes the longest cycle shorter.
func Better(m []api.Machine, n []api.Need, plan []int) (int, int, bool, api.Errno) {
	if e := checkPlan(m, n, plan); e != api.OK {
		return 0, 0, false, e
	}
	need, machine, found := better(m, n, plan)
	return need, machine, found, api.OK
}

func better(m []api.Machine, n []api.Need, plan []int) (int, int, bool) {
	all := loads(m, n, plan)
	_, longest := slowest(all)
	for i, from := range plan {
		to, least := 0, longest
		for k, machine := range m {
			if k == from || !all[k].takes(machine, n[i]) {
				continue
			}
			changed := slices.Clone(plan)
			changed[i] = k
			if _, then := slowest(loads(m, n, changed)); then < least {
				to, least = k, then
			}
		}
		if least < longest {
			return i, to, true
		}
	}
	return 0, 0, false
}
