package tour

import (
	"cmp"
	"math/bits"
	"slices"

	"reelfeeder/api"
	"reelfeeder/whole"
)

// Cycles divides points into cycles.
func Cycles(start api.Point, p []api.Point, nozzles int) ([][]int, int, api.Errno) {
	if e := check(start, p, api.MaxCycle); e != api.OK {
		return nil, 0, e
	}
	if !whole.Within(nozzles, 1, api.MaxNozzles) {
		return nil, 0, api.ErrArg
	}
	best := divided(len(p), nozzles, func(set int) way { return cycle(start, p, set) })
	return best.cycles, best.length, api.OK
}

// way is cycles, ordered by their least indices, with the sum of their lengths.
type way struct {
	cycles [][]int
	length int
}

// cycle is the way with one cycle to a set of points (point i is in the sets that have bit i).
func cycle(start api.Point, p []api.Point, set int) way {
	indices := whole.Members(set)
	var points []api.Point
	for _, i := range indices {
		points = append(points, p[i])
	}
	order, least := shortest(start, points)
	for place, i := range order {
		order[place] = indices[i]
	}
	return way{cycles: [][]int{order}, length: least}
}

// divided is the best way to all points. The best way to a set of points begins with a cycle to its least one, and
// goes on with the best way to those that are left.
func divided(points, nozzles int, cycle func(set int) way) way {
	best := make([]way, 1<<points)
	single := make([]way, 1<<points)
	for set := 1; set < len(best); set++ {
		if bits.OnesCount(uint(set)) <= nozzles {
			single[set] = cycle(set)
		}
		least := set & -set
		for part := set; part > 0; part = (part - 1) & set {
			if part&least == 0 || single[part].cycles == nil {
				continue
			}
			w := single[part].with(best[set&^part])
			if best[set].cycles == nil || w.compare(best[set]) < 0 {
				best[set] = w
			}
		}
	}
	return best[len(best)-1]
}

// with is the way that goes on with another one.
func (w way) with(rest way) way {
	return way{cycles: slices.Concat(w.cycles, rest.cycles), length: w.length + rest.length}
}

// compare is below 0 if a way is better than another one to the same points.
func (w way) compare(other way) int {
	return cmp.Or(
		cmp.Compare(w.length, other.length),
		cmp.Compare(len(w.cycles), len(other.cycles)),
		slices.CompareFunc(w.cycles, other.cycles, slices.Compare[[]int]),
	)
}
