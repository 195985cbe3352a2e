package line

import (
	"math/bits"

	"reelfeeder/api"
)

// never is longer than any cycle. The sum of one for each need, and of a cycle, still is an int.
const never = 1 << 50

// Balance is the plan whose longest cycle is as short as possible.
func Balance(m []api.Machine, n []api.Need) ([]int, int, bool, api.Errno) {
	if e := check(m, n); e != api.OK {
		return nil, 0, false, e
	}
	if len(n) > api.MaxAssigned {
		return nil, 0, false, api.ErrLarge
	}
	plan, longest, found := balance(m, n)
	return plan, longest, found, api.OK
}

// balance gives each need, one after the other, to the first machine with which a plan can still be as fast as the
// fastest one.
func balance(m []api.Machine, n []api.Need) ([]int, int, bool) {
	longer := lengthening(m, n)
	longest := fastest(m, longer, nil)
	if longest >= never {
		return nil, 0, false
	}
	var plan []int
	for i := range n {
		plan = append(plan, 0)
		for fastest(m, longer, plan) > longest {
			plan[i]++
		}
	}
	return plan, longest, true
}

// lengthening is for each machine by how much each need makes its cycle longer (by never, if it cannot place the part).
func lengthening(m []api.Machine, n []api.Need) [][]int {
	var all [][]int
	for _, machine := range m {
		var own []int
		for _, need := range n {
			if canPlace(machine, need.Part) {
				own = append(own, machine.Each*need.Many)
			} else {
				own = append(own, never)
			}
		}
		all = append(all, own)
	}
	return all
}

// fastest is the longest cycle of the fastest plan that begins like this; it is never or longer if there is none. It goes
// from machine to machine: best is, for each set of the needs that are left (need i of them is in the sets that have
// bit i), the longest cycle of the machines so far if they have this set.
func fastest(m []api.Machine, longer [][]int, begun []int) int {
	left := len(longer[0]) - len(begun)
	best := make([]int, 1<<left)
	for set := 1; set < len(best); set++ {
		best[set] = never
	}
	for k, machine := range m {
		own := cycles(machine, longer[k], begun, k)
		for set := len(best) - 1; set >= 0; set-- { // falling, as parts of it are still needed without this machine
			least := max(own[0], best[set])
			for part := set; part > 0; part = (part - 1) & set {
				least = min(least, max(own[part], best[set&^part]))
			}
			best[set] = least
		}
	}
	return best[len(best)-1]
}

// cycles are those of a machine that has what the beginning of a plan gives it, with each set of the needs that are
// left; they are never or longer for what it cannot have.
func cycles(m api.Machine, longer, begun []int, machine int) []int {
	cycle, parts := m.Fixed, 0
	for i, k := range begun {
		if k == machine {
			cycle += longer[i]
			parts++
		}
	}
	left := longer[len(begun):]
	all := make([]int, 1<<len(left))
	for set := range all {
		if set == 0 {
			all[set] = cycle
		} else {
			all[set] = all[set&(set-1)] + left[bits.TrailingZeros(uint(set))]
		}
	}
	for set := range all {
		if parts+bits.OnesCount(uint(set)) > m.Feeders {
			all[set] += never
		}
	}
	return all
}
