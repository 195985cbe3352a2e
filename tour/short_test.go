package tour_test

import (
	"fmt"
	"math/rand"
	"slices"
	"testing"

	"reelfeeder/api"
	"reelfeeder/tour"
)

func TestShortest(t *testing.T) {
	for _, c := range []struct {
		what, start, p string
		order          []int
		length         int
	}{
		{"the example", "0 0", "10 0, 1 1, 5 2", []int{0, 2, 1}, 20},
		{"no points", "5 5", "", []int{}, 0},
		{"one point", "5 5", "-1 4", []int{0}, 12},
		{"the start", "5 5", "5 5", []int{0}, 0},
		{"the least of both directions", "0 0", "4 0, 8 0", []int{0, 1}, 16},
		{"all the same", "1 0", "0 0, 0 0, 0 0", []int{0, 1, 2}, 2},
		{"on a line", "0 0", "3 0, 1 0, 2 0", []int{0, 2, 1}, 6},
		{"on a line, on both sides", "0 0", "3 0, -3 0, 1 0, -1 0", []int{0, 2, 1, 3}, 12},
		{"around", "0 0", "0 10, 20 0, 20 30", []int{0, 2, 1}, 80},
		{"by the greater difference", "0 0", "5 9, 0 9, 9 9", []int{1, 0, 2}, 27},
	} {
		is(t, c.what, three(tour.Shortest(point(c.start), points(c.p))), list{c.order, c.length, api.OK})
	}
}

func TestNearest(t *testing.T) {
	for _, c := range []struct {
		what, start, p string
		order          []int
		length         int
	}{
		{"the example", "0 0", "10 0, 1 1, 5 2", []int{1, 2, 0}, 20},
		{"no points", "5 5", "", []int{}, 0},
		{"one point", "5 5", "-1 4", []int{0}, 12},
		{"the smallest index", "0 0", "0 5, 5 0, -5 5, 3 3", []int{3, 0, 1, 2}, 26},
		{"the same", "0 0", "1 1, 1 1, 0 0", []int{2, 0, 1}, 2},
		{"from where the head is", "0 0", "-2 0, 1 0, 4 0", []int{1, 0, 2}, 14},
		{"longer than the shortest one", "0 0", "1 0, -2 0, 4 0, -9 0", []int{0, 1, 2, 3}, 32},
	} {
		is(t, c.what, three(tour.Nearest(point(c.start), points(c.p))), list{c.order, c.length, api.OK})
	}
}

// TestPointErrors holds the errors of Shortest and of Nearest, and their bounds.
func TestPointErrors(t *testing.T) {
	zero := api.Point{}
	p := make([]api.Point, api.MaxLong+1)
	var order []int
	for i := range api.MaxLong {
		order = append(order, i)
	}
	is(t, "so many", three(tour.Shortest(zero, p[:api.MaxTour])), list{order[:api.MaxTour], 0, api.OK})
	is(t, "too many", three(tour.Shortest(zero, p[:api.MaxTour+1])), list{[]int{}, 0, api.ErrLarge})
	is(t, "so many", three(tour.Nearest(zero, p[:api.MaxLong])), list{order, 0, api.OK})
	is(t, "too many", three(tour.Nearest(zero, p)), list{[]int{}, 0, api.ErrLarge})
	is(t, "start first", three(tour.Shortest(outside[0], p)), list{[]int{}, 0, api.ErrArg})
	is(t, "start first", three(tour.Nearest(outside[0], p)), list{[]int{}, 0, api.ErrArg})
	for _, bad := range outside {
		is(t, "start", three(tour.Shortest(bad, nil)), list{[]int{}, 0, api.ErrArg})
		is(t, "start", three(tour.Nearest(bad, nil)), list{[]int{}, 0, api.ErrArg})
		is(t, "point", three(tour.Shortest(zero, []api.Point{zero, bad})), list{[]int{}, 0, api.ErrArg})
		is(t, "point", three(tour.Nearest(zero, []api.Point{zero, bad})), list{[]int{}, 0, api.ErrArg})
	}
	p[api.MaxLong] = outside[0]
	is(t, "the number first", three(tour.Nearest(zero, p)), list{[]int{}, 0, api.ErrLarge})
	is(t, "the number first", three(tour.Shortest(zero, p[1:])), list{[]int{}, 0, api.ErrLarge})
}

// leastOrder is the first of all orders with the least length.
func leastOrder(start api.Point, p []api.Point) ([]int, int) {
	var best []int
	least := 1 << 60
	eachOrder(len(p), nil, func(order []int) {
		if n := around(start, p, order); n < least {
			best, least = order, n
		}
	})
	return best, least
}

// TestEveryTour holds Shortest against all orders, and that no tour is shorter than it.
func TestEveryTour(t *testing.T) {
	r := rand.New(rand.NewSource(2))
	for i := range 600 {
		many := r.Intn(7)
		if i%100 == 0 {
			many = 8
		}
		p := anyPoints(r, many+1, []int{1, 2, 5, 30, most}[r.Intn(5)])
		start, p := p[0], p[1:]
		best, least := leastOrder(start, p)
		is(t, fmt.Sprint("shortest of ", start, p), three(tour.Shortest(start, p)), list{best, least, api.OK})
		_, near, _ := tour.Nearest(start, p)
		_, improved, _ := tour.Improved(start, p, r.Perm(many))
		is(t, "shorter", list{near < least, improved < least}, list{false, false})
	}
}

// TestEveryNearest holds Nearest against P4.1.
func TestEveryNearest(t *testing.T) {
	r := rand.New(rand.NewSource(3))
	for range 600 {
		p := anyPoints(r, 1+r.Intn(40), []int{1, 3, 30, most}[r.Intn(4)])
		start, p := p[0], p[1:]
		var order []int
		at := start
		for range p {
			next := -1
			for i := range p {
				if !slices.Contains(order, i) && (next < 0 || far(at, p[i]) < far(at, p[next])) {
					next = i
				}
			}
			order = append(order, next)
			at = p[next]
		}
		is(t, fmt.Sprint("nearest of ", start, p), three(tour.Nearest(start, p)), list{order, around(start, p, order), api.OK})
	}
}

// TestLargestShortest holds that the most points are done soon, wherever they are.
func TestLargestShortest(t *testing.T) {
	r := rand.New(rand.NewSource(4))
	for range 20 {
		p := anyPoints(r, api.MaxTour+1, []int{1, 10, most}[r.Intn(3)])
		order, least, e := tour.Shortest(p[0], p[1:])
		is(t, "length", two(tour.Length(p[0], p[1:], order)), list{least, e})
	}
	around := points("1 0, 2 1, 3 2, 2 3, 1 4, 0 3, -1 2, -2 1, -1 0")
	is(t, "around", three(tour.Shortest(point("0 -1"), around)), list{[]int{0, 1, 2, 3, 4, 5, 6, 7, 8}, 10, api.OK})
}
