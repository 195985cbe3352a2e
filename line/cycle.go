package line

import (
	"slices"

	"reelfeeder/api"
)

// load is what a machine has to do for a board: its cycle, and how many parts it has.
type load struct{ cycle, parts int }

// with is the load of a machine that has another need, too.
func (l load) with(m api.Machine, n api.Need) load {
	return load{cycle: l.cycle + m.Each*n.Many, parts: l.parts + 1}
}

// takes says whether a machine with this load can have another need, too.
func (l load) takes(m api.Machine, n api.Need) bool {
	return l.parts < m.Feeders && canPlace(m, n.Part)
}

// loads are those of all machines with a plan, or with the beginning of one.
func loads(m []api.Machine, n []api.Need, plan []int) []load {
	all := make([]load, len(m))
	for k, machine := range m {
		all[k].cycle = machine.Fixed
	}
	for i, k := range plan {
		all[k] = all[k].with(m[k], n[i])
	}
	return all
}

// slowest is the first machine with the longest cycle, and this cycle.
func slowest(all []load) (int, int) {
	at := 0
	for k, l := range all {
		if l.cycle > all[at].cycle {
			at = k
		}
	}
	return at, all[at].cycle
}

// Cycles are those of all machines.
func Cycles(m []api.Machine, n []api.Need, plan []int) ([]int, api.Errno) {
	if e := checkPlan(m, n, plan); e != api.OK {
		return nil, e
	}
	var cycles []int
	for _, l := range loads(m, n, plan) {
		cycles = append(cycles, l.cycle)
	}
	return cycles, api.OK
}

// Slowest is the machine with the longest cycle.
func Slowest(m []api.Machine, n []api.Need, plan []int) (int, int, api.Errno) {
	if e := checkPlan(m, n, plan); e != api.OK {
		return 0, 0, e
	}
	k, longest := slowest(loads(m, n, plan))
	return k, longest, api.OK
}

// Bound is the least time that no plan can be faster than.
func Bound(m []api.Machine, n []api.Need) (int, api.Errno) {
	if e := check(m, n); e != api.OK {
		return 0, e
	}
	sum, longest := 0, 0
	for _, machine := range m {
		sum += machine.Fixed
		longest = max(longest, machine.Fixed)
	}
	for _, need := range n {
		sum += leastEach(m, need.Part) * need.Many
	}
	average := (sum + len(m) - 1) / len(m)
	return max(longest, average), api.OK
}

// leastEach is how long the quickest machine needs to place a part, or 0 if no machine can.
func leastEach(m []api.Machine, part string) int {
	least, found := 0, false
	for _, machine := range m {
		if canPlace(machine, part) && (!found || machine.Each < least) {
			least, found = machine.Each, true
		}
	}
	return least
}

// Nobody are the parts that no machine can place.
func Nobody(m []api.Machine, n []api.Need) ([]string, api.Errno) {
	if e := check(m, n); e != api.OK {
		return nil, e
	}
	var parts []string
	for _, need := range n {
		if !slices.ContainsFunc(m, func(machine api.Machine) bool { return canPlace(machine, need.Part) }) {
			parts = append(parts, need.Part)
		}
	}
	return parts, api.OK
}
