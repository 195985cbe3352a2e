package tour_test

import (
	"fmt"
	"math"
	"math/rand"
	"slices"
	"testing"

	"reelfeeder/api"
	"reelfeeder/tour"
)

func TestStrokes(t *testing.T) {
	for _, c := range []struct {
		what  string
		slots []int
		want  []int
		many  int
	}{
		{"the example", []int{4, 5, 9}, []int{0, 1, 2}, 2},
		{"falling", []int{5, 4}, []int{1, 0}, 1},
		{"one slot", []int{7}, []int{0}, 1},
		{"in a row", []int{3, 4, 5, 6, 7, 8, 9, 10}, []int{0, 1, 2, 3, 4, 5, 6, 7}, 1},
		{"in a row backwards", []int{10, 9, 8, 7, 6, 5, 4, 3}, []int{7, 6, 5, 4, 3, 2, 1, 0}, 1},
		{"the same slot", []int{4, 4}, []int{0, 1}, 2},
		{"the same slots", []int{4, 4, 5, 5}, []int{0, 2, 1, 3}, 2},
		{"strokes below 0", []int{0, 1, 0}, []int{0, 1, 2}, 2},
		{"from before the first slot", []int{0, 0, 1, 1}, []int{0, 2, 1, 3}, 2},
		{"with a gap", []int{4, 6, 5}, []int{0, 2, 1}, 1},
		{"with a nozzle between", []int{9, 4, 6}, []int{1, 0, 2}, 2},
		{"far apart", []int{0, 1000, 500}, []int{0, 1, 2}, 3},
		{"the least of several", []int{1, 10, 2}, []int{0, 2, 1}, 2},
	} {
		is(t, c.what, three(tour.Strokes(c.slots)), list{c.want, c.many, api.OK})
	}
}

func TestSpread(t *testing.T) {
	for _, c := range []struct {
		slots []int
		want  api.Window
	}{
		{[]int{5, 4, 9}, api.Window{From: 4, To: 10}},
		{[]int{0}, api.Window{From: 0, To: 1}},
		{[]int{7, 7}, api.Window{From: 7, To: 8}},
		{[]int{1000, 0, 3}, api.Window{From: 0, To: 1001}},
	} {
		is(t, fmt.Sprint(c.slots), two(tour.Spread(c.slots)), list{c.want, api.OK})
	}
}

func TestSlotErrors(t *testing.T) {
	for _, c := range []struct {
		what  string
		slots []int
		want  api.Errno
	}{
		{"none", nil, api.ErrNone},
		{"empty", []int{}, api.ErrNone},
		{"too many", make([]int, api.MaxNozzles+1), api.ErrLarge},
		{"the number first", slices.Repeat([]int{-1}, api.MaxNozzles+1), api.ErrLarge},
		{"much too many", make([]int, 200_000), api.ErrLarge},
		{"below 0", []int{4, -1}, api.ErrArg},
		{"after the last slot", []int{1001, 4}, api.ErrArg},
		{"the least", []int{math.MinInt}, api.ErrArg},
		{"the greatest", []int{math.MaxInt}, api.ErrArg},
	} {
		is(t, c.what, three(tour.Strokes(c.slots)), list{[]int{}, 0, c.want})
		is(t, c.what, two(tour.Spread(c.slots)), list{api.Window{}, c.want})
	}
	is(t, "the last slot", three(tour.Strokes([]int{1000})), list{[]int{0}, 1, api.OK})
	is(t, "so many", three(tour.Strokes(make([]int, api.MaxNozzles))), list{[]int{0, 1, 2, 3, 4, 5, 6, 7}, 8, api.OK})
}

// TestEveryStroke holds Strokes against all ways.
func TestEveryStroke(t *testing.T) {
	r := rand.New(rand.NewSource(11))
	for i := range 600 {
		slots := make([]int, 1+r.Intn(6))
		if i%100 == 0 {
			slots = make([]int, api.MaxNozzles)
		}
		for k := range slots {
			slots[k] = r.Intn([]int{3, 8, 15, 40}[i%4])
		}
		var best []int
		least := 1 << 60
		eachOrder(len(slots), nil, func(nozzles []int) {
			different := map[int]bool{}
			for k, nozzle := range nozzles {
				different[slots[k]-nozzle] = true
			}
			if len(different) < least {
				best, least = nozzles, len(different)
			}
		})
		is(t, fmt.Sprint("strokes of ", slots), three(tour.Strokes(slots)), list{best, least, api.OK})
	}
}
