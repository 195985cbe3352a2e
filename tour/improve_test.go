package tour_test

import (
	"fmt"
	"math/rand"
	"slices"
	"testing"

	"reelfeeder/api"
	"reelfeeder/tour"
)

func TestImproved(t *testing.T) {
	for _, c := range []struct {
		what, start, p string
		order, want    []int
		length         int
	}{
		{"the least place, and the least one with it", "0 0", "10 0, 1 1, 5 2", []int{0, 1, 2}, []int{1, 0, 2}, 20},
		{"no points", "5 5", "", nil, []int{}, 0},
		{"one point", "5 5", "1 1", []int{0}, []int{0}, 8},
		{"two points", "5 5", "1 1, 2 2", []int{1, 0}, []int{1, 0}, 8},
		{"nothing to turn", "0 0", "1 0, 2 0, 3 0", []int{0, 1, 2}, []int{0, 1, 2}, 6},
		{"no turn without need", "0 0", "1 0, 2 0, 3 0", []int{2, 1, 0}, []int{2, 1, 0}, 6},
		{"as short is not shorter", "0 0", "1 0, 3 0, 2 0", []int{0, 1, 2}, []int{0, 1, 2}, 6},
		{"up to the last place", "0 0", "0 9, 9 9, 9 0, 5 0", []int{0, 1, 3, 2}, []int{0, 1, 2, 3}, 36},
		{"crossing", "0 0", "0 9, 9 0, 9 9, 12 4", []int{0, 1, 2, 3}, []int{0, 2, 3, 1}, 36},
		{"again from the first place on", "0 0", "9 0, 0 9, 9 9, 4 9, 9 4", []int{0, 1, 2, 3, 4}, []int{2, 3, 1, 0, 4}, 40},
	} {
		is(t, c.what, three(tour.Improved(point(c.start), points(c.p), c.order)), list{c.want, c.length, api.OK})
	}
}

// inSteps does what P4.2 says.
func inSteps(start api.Point, p []api.Point, order []int) []int {
	order = slices.Clone(order)
	for i := 0; i < len(order); i++ {
		for k := i + 1; k < len(order); k++ {
			turned := slices.Clone(order)
			slices.Reverse(turned[i : k+1])
			if around(start, p, turned) < around(start, p, order) {
				return inSteps(start, p, turned)
			}
		}
	}
	return order
}

// TestEveryStep holds Improved against P4.2, that it makes no tour longer, and that nothing is left to improve.
func TestEveryStep(t *testing.T) {
	r := rand.New(rand.NewSource(5))
	for i := range 1500 {
		many := r.Intn(12)
		if i%100 == 0 {
			many = 10 + i/25
		}
		p := anyPoints(r, many+1, []int{1, 2, 5, 30, most}[r.Intn(5)])
		start, p := p[0], p[1:]
		order := r.Perm(many)
		want := inSteps(start, p, order)
		is(t, fmt.Sprint("improved ", start, p, order), three(tour.Improved(start, p, order)), list{want, around(start, p, want), api.OK})
		is(t, "longer", around(start, p, want) > around(start, p, order), false)
		is(t, "again", three(tour.Improved(start, p, want)), list{want, around(start, p, want), api.OK})
	}
}

// TestLongestImproved holds that the most points are done soon, wherever they are, and that nothing is left to improve.
func TestLongestImproved(t *testing.T) {
	r := rand.New(rand.NewSource(6))
	for _, size := range []int{0, 1, 20, most} {
		p := anyPoints(r, api.MaxLong, size)
		line := slices.Clone(p)
		for i := range line {
			line[i].Y = 0
		}
		for _, p := range [][]api.Point{p, line} {
			order := r.Perm(len(p))
			better, length, e := tour.Improved(point("1 0"), p, order)
			is(t, "length", two(tour.Length(point("1 0"), p, better)), list{length, e})
			is(t, "longer", length > around(point("1 0"), p, order), false)
			is(t, "again", three(tour.Improved(point("1 0"), p, better)), list{better, length, api.OK})
		}
	}
	is(t, "too many", three(tour.Improved(point("0 0"), make([]api.Point, api.MaxLong+1), nil)), list{[]int{}, 0, api.ErrLarge})
}
