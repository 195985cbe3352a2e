package tour_test

import (
	"fmt"
	"math"
	"math/rand"
	"slices"
	"testing"

	"reelfeeder/api"
	"reelfeeder/tour"
)

func TestCycles(t *testing.T) {
	for _, c := range []struct {
		what, start, p string
		nozzles        int
		want           [][]int
		length         int
	}{
		{"two cycles", "0 0", "10 0, 1 1, 5 2", 2, [][]int{{0, 2}, {1}}, 22},
		{"one cycle", "0 0", "10 0, 1 1, 5 2", 3, [][]int{{0, 2, 1}}, 20},
		{"more nozzles than points", "0 0", "10 0, 1 1, 5 2", 8, [][]int{{0, 2, 1}}, 20},
		{"one nozzle", "0 0", "10 0, 1 1, 5 2", 1, [][]int{{0}, {1}, {2}}, 32},
		{"no points", "0 0", "", 3, nil, 0},
		{"one point", "2 0", "0 0", 3, [][]int{{0}}, 4},
		{"the fewest cycles", "0 0", "5 0, -5 0", 2, [][]int{{0, 1}}, 20},
		{"the fewest cycles at the start", "1 1", "1 1, 1 1, 1 1", 2, [][]int{{0}, {1, 2}}, 0},
		{"the least of several", "0 0", "4 0, 4 0, 4 0, 4 0", 2, [][]int{{0, 1}, {2, 3}}, 16},
		{"a short cycle before a long one", "0 0", "4 0, 4 0, 4 0", 2, [][]int{{0}, {1, 2}}, 16},
		{"each one the least shortest tour", "0 0", "-1 0, 3 0, 1 0, 2 0", 3, [][]int{{0}, {1, 3, 2}}, 8},
		{"by their least indices", "0 0", "9 0, -9 0, 9 1, -9 1", 2, [][]int{{0, 2}, {1, 3}}, 38},
		{"the sum before the number of cycles", "0 0", "9 9, 9 9, -9 9, -9 9, -9 -9, -9 -9", 3, [][]int{{0, 1}, {2, 3}, {4, 5}}, 54},
	} {
		is(t, c.what, three(tour.Cycles(point(c.start), points(c.p), c.nozzles)), list{c.want, c.length, api.OK})
	}
}

func TestCyclesErrors(t *testing.T) {
	zero := api.Point{}
	p := make([]api.Point, api.MaxCycle+1)
	for _, c := range []struct {
		what    string
		start   api.Point
		p       []api.Point
		nozzles int
		want    api.Errno
	}{
		{"start first", outside[0], p, 0, api.ErrArg},
		{"too many points", zero, p, 0, api.ErrLarge},
		{"too many points, beyond", zero, append(p[:api.MaxCycle:api.MaxCycle], outside[0]), 1, api.ErrLarge},
		{"point", zero, outside[:1], 1, api.ErrArg},
		{"no nozzles", zero, nil, 0, api.ErrArg},
		{"below 0", zero, p[:1], -1, api.ErrArg},
		{"too many nozzles", zero, p[:1], api.MaxNozzles + 1, api.ErrArg},
		{"the least", zero, p[:1], math.MinInt, api.ErrArg},
		{"the greatest", zero, p[:1], math.MaxInt, api.ErrArg},
	} {
		is(t, c.what, three(tour.Cycles(c.start, c.p, c.nozzles)), list{[][]int{}, 0, c.want})
	}
	for _, bad := range outside {
		is(t, "start", three(tour.Cycles(bad, nil, 1)), list{[][]int{}, 0, api.ErrArg})
		is(t, "point", three(tour.Cycles(zero, []api.Point{zero, bad}, 1)), list{[][]int{}, 0, api.ErrArg})
	}
	is(t, "so many", three(tour.Cycles(zero, p[:api.MaxCycle], api.MaxNozzles)), list{[][]int{{0, 1, 2, 3, 4, 5, 6, 7}}, 0, api.OK})
}

// eachDivision tells all divisions into groups of indices, both rising.
func eachDivision(many, i int, groups [][]int, tell func([][]int)) {
	if i == many {
		tell(groups)
		return
	}
	for g := range groups {
		next := slices.Clone(groups)
		next[g] = append(slices.Clone(groups[g]), i)
		eachDivision(many, i+1, next, tell)
	}
	eachDivision(many, i+1, append(slices.Clone(groups), []int{i}), tell)
}

// tours are the shortest ones of groups, and the sum of their lengths.
func tours(start api.Point, p []api.Point, groups [][]int) ([][]int, int) {
	var cycles [][]int
	sum := 0
	for _, g := range groups {
		var own []api.Point
		for _, i := range g {
			own = append(own, p[i])
		}
		order, least := leastOrder(start, own)
		for place, i := range order {
			order[place] = g[i]
		}
		cycles = append(cycles, order)
		sum += least
	}
	return cycles, sum
}

func less(a, b [][]int) bool {
	for i := range min(len(a), len(b)) {
		if order := slices.Compare(a[i], b[i]); order != 0 {
			return order < 0
		}
	}
	return false
}

// TestEveryCycle holds Cycles against all divisions.
func TestEveryCycle(t *testing.T) {
	r := rand.New(rand.NewSource(7))
	for i := range 400 {
		many := r.Intn(5)
		if i%20 == 0 {
			many = 6
		}
		p := anyPoints(r, many+1, []int{1, 2, 5, 30, most}[r.Intn(5)])
		start, p, nozzles := p[0], p[1:], 1+r.Intn(4)
		var best [][]int
		least := 1 << 60
		eachDivision(many, 0, nil, func(groups [][]int) {
			if slices.ContainsFunc(groups, func(g []int) bool { return len(g) > nozzles }) {
				return
			}
			cycles, sum := tours(start, p, groups)
			if sum > least || sum == least && len(cycles) > len(best) || sum == least && len(cycles) == len(best) && !less(cycles, best) {
				return
			}
			best, least = cycles, sum
		})
		is(t, fmt.Sprint("cycles of ", start, p, nozzles), three(tour.Cycles(start, p, nozzles)), list{best, least, api.OK})
	}
}

// TestLargestCycles holds that the most points are done soon, with any number of nozzles.
func TestLargestCycles(t *testing.T) {
	r := rand.New(rand.NewSource(8))
	for nozzles := 1; nozzles <= api.MaxNozzles; nozzles++ {
		p := anyPoints(r, api.MaxCycle, 10*nozzles)
		cycles, length, e := tour.Cycles(point("0 0"), p, nozzles)
		again, sum := tours(point("0 0"), p, rising(cycles))
		is(t, "cycles", list{cycles, length, e}, list{again, sum, api.OK})
	}
}

// rising are the same groups, each one rising.
func rising(groups [][]int) [][]int {
	var all [][]int
	for _, g := range groups {
		all = append(all, slices.Sorted(slices.Values(g)))
	}
	return all
}
