package whole_test

import (
	"math"
	"slices"
	"testing"

	"reelfeeder/api"
	"reelfeeder/whole"
)

func TestWithin(t *testing.T) {
	for n, want := range map[int]bool{-1: false, 0: true, 3: true, 4: false, math.MinInt: false, math.MaxInt: false} {
		if got := whole.Within(n, 0, 3); got != want {
			t.Errorf("%d: got %v", n, got)
		}
	}
}

func TestNearest(t *testing.T) {
	for _, c := range [][3]int{
		{0, 5, 0}, {2, 5, 0}, {3, 5, 1}, {-2, 5, 0}, {-3, 5, -1}, {5, 5, 1}, {-5, 5, -1}, {-7, 5, -1}, {-8, 5, -2},
		{1, 2, 1}, {-1, 2, 0}, {3, 2, 2}, {-3, 2, -1}, {7, 1, 7}, {-7, 1, -7},
		{math.MaxInt, 2, 1 << 62}, {math.MinInt, 2, -1 << 62}, {math.MaxInt, math.MaxInt, 1}, {math.MaxInt / 2, math.MaxInt, 0}, {math.MaxInt/2 + 1, math.MaxInt, 1},
	} {
		if got := whole.Nearest(c[0], c[1]); got != c[2] {
			t.Errorf("%d / %d: got %d, want %d", c[0], c[1], got, c[2])
		}
	}
}

func TestLowest(t *testing.T) {
	for _, c := range [][4]int{{0, 7, 0, 1}, {6, 4, 3, 2}, {4, 6, 2, 3}, {5, 5, 1, 1}, {7, 3, 7, 3}, {1_000_000, 10, 100_000, 1}} {
		if got := whole.Lowest(c[0], c[1]); got != (api.Fraction{Num: c[2], Den: c[3]}) {
			t.Errorf("%d / %d: got %v", c[0], c[1], got)
		}
	}
}

// TestMoment holds Z11: what a moment is.
func TestMoment(t *testing.T) {
	for n, want := range map[int]bool{-1: false, 0: true, api.End - 1: true, api.End: false, math.MinInt: false, math.MaxInt: false} {
		if got := whole.Moment(n); got != want {
			t.Errorf("%d: got %v", n, got)
		}
	}
}

func TestMembers(t *testing.T) {
	for set, want := range map[int][]int{0: nil, 1: {0}, 6: {1, 2}, 41: {0, 3, 5}, 1 << 62: {62}, 255: {0, 1, 2, 3, 4, 5, 6, 7}} {
		if got := whole.Members(set); !slices.Equal(got, want) {
			t.Errorf("%b: got %v", set, got)
		}
	}
}
