package tour_test

import (
	"fmt"
	"math"
	"math/rand"
	"slices"
	"strconv"
	"strings"
	"testing"

	"reelfeeder/api"
	"reelfeeder/tour"
)

type list = []any

// is compares values; a nil list is the same as an empty one.
func is(t *testing.T, what string, got, want any) {
	t.Helper()
	if g, w := fmt.Sprint(got), fmt.Sprint(want); g != w {
		t.Errorf("%s: got %.300s, want %.300s", what, g, w)
	}
}

// two and three are the results of a call as a list.
func two[A any](a A, e api.Errno) list { return list{a, e} }

func three[A, B any](a A, b B, e api.Errno) list { return list{a, b, e} }

const most = api.MaxCoordinate

// points are those of words: "1 2, -3 4" are two.
func points(words string) []api.Point {
	var p []api.Point
	for _, pair := range strings.Split(words, ",") {
		if n := numbers(pair); len(n) == 2 {
			p = append(p, api.Point{X: n[0], Y: n[1]})
		}
	}
	return p
}

func point(words string) api.Point { return points(words)[0] }

func numbers(words string) []int {
	var l []int
	for _, s := range strings.Fields(words) {
		n, err := strconv.Atoi(s)
		if err != nil {
			panic(err)
		}
		l = append(l, n)
	}
	return l
}

// anyPoints are so many points with coordinates from -most to most.
func anyPoints(r *rand.Rand, many, most int) []api.Point {
	var p []api.Point
	for range many {
		p = append(p, api.Point{X: r.Intn(2*most+1) - most, Y: r.Intn(2*most+1) - most})
	}
	return p
}

// far is how far it is from one point to another one, as P4.1 says it.
func far(a, b api.Point) int {
	x, y := a.X-b.X, a.Y-b.Y
	if x < 0 {
		x = -x
	}
	if y < 0 {
		y = -y
	}
	if x > y {
		return x
	}
	return y
}

// around is the length of a tour, as P4.1 says it.
func around(start api.Point, p []api.Point, order []int) int {
	stops := []api.Point{start}
	for _, i := range order {
		stops = append(stops, p[i])
	}
	stops = append(stops, start)
	sum := 0
	for i := range stops[1:] {
		sum += far(stops[i], stops[i+1])
	}
	return sum
}

// eachOrder tells all orders, rising.
func eachOrder(many int, order []int, tell func([]int)) {
	if len(order) == many {
		tell(order)
		return
	}
	for i := range many {
		if !slices.Contains(order, i) {
			eachOrder(many, append(slices.Clone(order), i), tell)
		}
	}
}

// outside are points that no head reaches, and at the edge those that it reaches.
var outside = []api.Point{
	{X: most + 1}, {X: -most - 1}, {Y: most + 1}, {Y: -most - 1},
	{X: math.MaxInt}, {X: math.MinInt}, {Y: math.MaxInt}, {Y: math.MinInt}, {X: math.MinInt, Y: math.MaxInt},
}

var corners = []api.Point{{X: most, Y: most}, {X: -most, Y: most}, {X: most, Y: -most}, {X: -most, Y: -most}}

// TestCheckPoints holds P4.1: what points are.
func TestCheckPoints(t *testing.T) {
	for _, c := range []struct {
		what string
		p    []api.Point
		most int
		want api.Errno
	}{
		{"none", nil, 0, api.OK},
		{"none, with room", []api.Point{}, 5, api.OK},
		{"none, but less are allowed", nil, -1, api.ErrLarge},
		{"none, but the least number is allowed", nil, math.MinInt, api.ErrLarge},
		{"as many as are allowed", points("1 2, 3 4"), 2, api.OK},
		{"one more", points("1 2, 3 4"), 1, api.ErrLarge},
		{"any number", points("1 2, 3 4"), math.MaxInt, api.OK},
		{"the same", points("1 2, 1 2"), 2, api.OK},
		{"corners", corners, 4, api.OK},
		{"the number first", outside, 1, api.ErrLarge},
		{"the last one", append(slices.Clone(corners), outside[0]), 5, api.ErrArg},
		{"more than MaxLong", make([]api.Point, 200_000), 200_000, api.OK},
		{"less than more than MaxLong", make([]api.Point, 200_000), 199_999, api.ErrLarge},
	} {
		is(t, c.what, tour.CheckPoints(c.p, c.most), c.want)
	}
	for _, p := range outside {
		is(t, fmt.Sprint(p), tour.CheckPoints([]api.Point{p}, 1), api.ErrArg)
	}
}

func TestDistance(t *testing.T) {
	for _, c := range []struct {
		a, b string
		want int
	}{
		{"0 0", "0 0", 0},
		{"-3 4", "2 6", 5},
		{"3 4", "-2 6", 5},
		{"4 -3", "6 2", 5},
		{"4 3", "6 -2", 5},
		{"1 1", "8 8", 7},
		{"0 0", "1 -9", 9},
	} {
		is(t, c.a+" to "+c.b, two(tour.Distance(point(c.a), point(c.b))), list{c.want, api.OK})
		is(t, c.b+" to "+c.a, two(tour.Distance(point(c.b), point(c.a))), list{c.want, api.OK})
	}
	is(t, "corners", two(tour.Distance(corners[0], corners[3])), list{2 * most, api.OK})
	for _, p := range outside {
		is(t, "from beyond", two(tour.Distance(p, api.Point{})), list{0, api.ErrArg})
		is(t, "to beyond", two(tour.Distance(api.Point{}, p)), list{0, api.ErrArg})
		is(t, "beyond", two(tour.Distance(p, p)), list{0, api.ErrArg})
	}
}

func TestLength(t *testing.T) {
	for _, c := range []struct {
		start, p, order string
		want            int
	}{
		{"0 0", "10 0, 1 1, 5 2", "0 1 2", 28},
		{"0 0", "10 0, 1 1, 5 2", "0 2 1", 20},
		{"3 3", "", "", 0},
		{"3 3", "5 4", "0", 4},
		{"3 3", "3 3, 3 3", "1 0", 0},
		{"-1 0", "0 5, 4 0", "1 0", 15},
	} {
		is(t, c.p+" in "+c.order, two(tour.Length(point(c.start), points(c.p), numbers(c.order))), list{c.want, api.OK})
	}
	var p []api.Point
	var order []int
	for i := range api.MaxLong {
		p = append(p, corners[i%2])
		order = append(order, i)
	}
	is(t, "the longest", two(tour.Length(corners[1], p, order)), list{api.MaxLong * 2 * most, api.OK})
}

// TestTourErrors holds the errors of Length and of Improved, and their order.
func TestTourErrors(t *testing.T) {
	some := points("1 1, 2 2, 3 3")
	for _, c := range []struct {
		what  string
		start api.Point
		p     []api.Point
		order []int
		want  api.Errno
	}{
		{"start", outside[0], make([]api.Point, api.MaxLong+1), nil, api.ErrArg},
		{"too many points", point("0 0"), make([]api.Point, api.MaxLong+1), nil, api.ErrLarge},
		{"too many, beyond", point("0 0"), append(make([]api.Point, api.MaxLong), outside[0]), nil, api.ErrLarge},
		{"beyond", point("0 0"), outside, nil, api.ErrArg},
		{"no order", point("0 0"), some, nil, api.ErrForm},
		{"too short", point("0 0"), some, []int{7, 7}, api.ErrForm},
		{"too long", point("0 0"), some, []int{0, 1, 2, 0}, api.ErrForm},
		{"much too long", point("0 0"), some, make([]int, 200_000), api.ErrForm},
		{"an order of nothing", point("0 0"), nil, []int{0}, api.ErrForm},
		{"below 0", point("0 0"), some, []int{0, -1, 1}, api.ErrArg},
		{"no index", point("0 0"), some, []int{0, 1, 3}, api.ErrArg},
		{"the least", point("0 0"), some, []int{math.MinInt, 0, 1}, api.ErrArg},
		{"the greatest", point("0 0"), some, []int{0, 1, math.MaxInt}, api.ErrArg},
		{"twice", point("0 0"), some, []int{0, 1, 0}, api.ErrTwice},
		{"twice before no index", point("0 0"), some, []int{1, 1, 3}, api.ErrTwice},
		{"no index before twice", point("0 0"), some, []int{3, 1, 1}, api.ErrArg},
		{"no index twice", point("0 0"), some, []int{3, 3, 1}, api.ErrArg},
	} {
		is(t, c.what, two(tour.Length(c.start, c.p, c.order)), list{0, c.want})
		is(t, c.what, three(tour.Improved(c.start, c.p, c.order)), list{[]int{}, 0, c.want})
	}
	for _, p := range outside {
		is(t, "start", two(tour.Length(p, some, []int{0, 1, 2})), list{0, api.ErrArg})
		is(t, "start", three(tour.Improved(p, some, []int{0, 1, 2})), list{[]int{}, 0, api.ErrArg})
	}
}

// TestEveryLength holds Distance and Length against P4.1, with coordinates up to the greatest ones.
func TestEveryLength(t *testing.T) {
	r := rand.New(rand.NewSource(1))
	for range 500 {
		p := anyPoints(r, 2+r.Intn(8), 1+r.Intn(most))
		is(t, "distance", two(tour.Distance(p[0], p[1])), list{far(p[0], p[1]), api.OK})
		order := r.Perm(len(p) - 1)
		is(t, "length", two(tour.Length(p[0], p[1:], order)), list{around(p[0], p[1:], order), api.OK})
	}
}
