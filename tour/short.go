package tour

import (
	"math"
	"slices"

	"reelfeeder/api"
)

// Shortest is the order with the shortest tour.
func Shortest(start api.Point, p []api.Point) ([]int, int, api.Errno) {
	if e := check(start, p, api.MaxTour); e != api.OK {
		return nil, 0, e
	}
	order, least := shortest(start, p)
	return order, least, api.OK
}

// shortest tries the orders from the least one on, so of those with a shortest tour the first one is taken.
func shortest(start api.Point, p []api.Point) ([]int, int) {
	var best, order []int
	least := math.MaxInt
	var visit func(at api.Point, gone int)
	visit = func(at api.Point, gone int) {
		if gone+distance(at, start) >= least { // no way back is shorter than the straight one
			return
		}
		if len(order) == len(p) {
			best, least = slices.Clone(order), gone+distance(at, start)
			return
		}
		for i, point := range p {
			if !slices.Contains(order, i) {
				order = append(order, i)
				visit(point, gone+distance(at, point))
				order = order[:len(order)-1]
			}
		}
	}
	visit(start, 0)
	return best, least
}

// Nearest is the order in which the head always goes to the nearest point.
func Nearest(start api.Point, p []api.Point) ([]int, int, api.Errno) {
	if e := check(start, p, api.MaxLong); e != api.OK {
		return nil, 0, e
	}
	order := nearest(start, p)
	return order, length(start, p, order), api.OK
}

func nearest(start api.Point, p []api.Point) []int {
	var order []int
	there := make([]bool, len(p))
	at := start
	for range p {
		next, least := 0, math.MaxInt
		for i, point := range p {
			if !there[i] && distance(at, point) < least {
				next, least = i, distance(at, point)
			}
		}
		order = append(order, next)
		there[next] = true
		at = p[next]
	}
	return order
}
