package panel_test

import (
	"fmt"
	"math"
	"math/big"
	"math/rand"
	"testing"

	"reelfeeder/api"
	"reelfeeder/panel"
)

// two is a product with two components of part a and one of part b; bodies of a are 5 wide and 3 high.
func two(x, y int, quarter int) api.Product {
	return api.Product{Key: "p", Wide: 100, High: 100, Placements: []api.Placement{
		{Name: "a1", Part: "a", X: 50, Y: 50}, {Name: "a2", Part: "a", X: x, Y: y, Quarter: quarter}, {Name: "b1", Part: "b", X: 50, Y: 50},
	}}
}

func bodies() []api.Body {
	return []api.Body{{Part: "a", Wide: 5, High: 3}, {Part: "c", Wide: 9, High: 9}}
}

func TestCrowded(t *testing.T) {
	for _, c := range []struct {
		what          string
		x, y, quarter int
		gap           int
		want          bool
	}{
		{"overlapping", 54, 52, 0, 0, true},
		{"touching in x", 55, 50, 0, 0, false},
		{"touching in x, gap", 55, 50, 0, 1, true},
		{"touching in y", 50, 53, 0, 0, false},
		{"touching in y, gap", 50, 47, 0, 1, true},
		{"as far as the gap in x", 57, 50, 0, 2, false},
		{"nearer than the gap in x", 57, 50, 0, 3, true},
		{"as far as the gap in y", 50, 55, 0, 2, false},
		{"nearer than the gap in y", 50, 45, 0, 3, true},
		{"nearer in x only", 51, 90, 0, 3, false},
		{"nearer in y only", 10, 51, 0, 3, false},
		{"near in both, without overlapping", 57, 55, 0, 3, true},
		{"turned: 4 half widths apart in x", 54, 50, 1, 0, false},
		{"turned: overlapping", 53, 50, 1, 0, true},
		{"turned: 4 half heights apart in y", 50, 54, 3, 0, false},
		{"turned: overlapping", 50, 47, 3, 0, true},
		{"turned by two", 54, 52, 2, 0, true},
		{"one within the other", 50, 50, 0, 0, true},
		{"greatest gap", 100, 0, 0, api.MaxCoordinate, true},
	} {
		var want []api.Pair
		if c.want {
			want = []api.Pair{{Name: "a1", Value: "a2"}}
		}
		is(t, c.what, values(panel.Crowded(two(c.x, c.y, c.quarter), bodies(), c.gap)), values(want, api.OK))
	}
}

// TestHalves holds that half micrometres count: bodies of 2 and 1 in a row touch at a half.
func TestHalves(t *testing.T) {
	p := api.Product{Key: "p", Wide: 10, High: 10, Placements: []api.Placement{{Name: "a", Part: "even", X: 2, Y: 5}, {Name: "b", Part: "odd", X: 4, Y: 5}}}
	b := []api.Body{{Part: "even", Wide: 2, High: 2}, {Part: "odd", Wide: 1, High: 1}} // apart by 0.5
	is(t, "half apart", values(panel.Crowded(p, b, 0)), values(none[api.Pair](), api.OK))
	is(t, "half apart, gap 1", values(panel.Crowded(p, b, 1)), values([]api.Pair{{Name: "a", Value: "b"}}, api.OK))
	b[1].Wide = 3 // overlapping by 0.5
	is(t, "half in common", values(panel.Crowded(p, b, 0)), values([]api.Pair{{Name: "a", Value: "b"}}, api.OK))
	p.Placements = []api.Placement{{Name: "b", Part: "odd", X: 2, Y: 5}} // from 0.5 to 3.5
	is(t, "half from the edge", values(panel.Beyond(p, b, 0)), values(none[string](), api.OK))
	is(t, "half from the edge, edge 1", values(panel.Beyond(p, b, 1)), values([]string{"b"}, api.OK))
	p.Placements[0].X = 1 // from -0.5
	is(t, "half beyond", values(panel.Beyond(p, b, 0)), values([]string{"b"}, api.OK))
}

func TestCrowdedOrder(t *testing.T) {
	p := api.Product{Key: "p", Wide: 100, High: 100, Placements: []api.Placement{
		{Name: "a", Part: "c", X: 50}, {Name: "b", Part: "c", X: 10}, {Name: "c", Part: "none", X: 10}, {Name: "d", Part: "c", X: 45}, {Name: "e", Part: "a", X: 14}, {Name: "f", Part: "c", X: 41},
	}}
	is(t, "order", values(panel.Crowded(p, bodies(), 1)), values([]api.Pair{{Name: "a", Value: "d"}, {Name: "a", Value: "f"}, {Name: "b", Value: "e"}, {Name: "d", Value: "f"}}, api.OK))
	is(t, "no bodies", values(panel.Crowded(p, nil, 1)), values(none[api.Pair](), api.OK))
	is(t, "no placements", values(panel.Crowded(api.Product{Key: "p", Wide: 1, High: 1}, bodies(), 1)), values(none[api.Pair](), api.OK))
	all, e := panel.Crowded(many(api.MaxPlacements), []api.Body{{Part: "cap", Wide: 30, High: 30}}, 0)
	is(t, "most", list{len(all), e}, list{api.MaxPlacements * (api.MaxPlacements - 1) / 2, api.OK})
}

func TestBeyond(t *testing.T) {
	for _, c := range []struct {
		what          string
		x, y, quarter int
		edge          int
		want          bool
	}{
		{"left, half too far", 8, 50, 0, 5, false},
		{"left, half too near", 7, 50, 0, 5, true},
		{"right, half too far", 92, 50, 0, 5, false},
		{"right, half too near", 93, 50, 0, 5, true},
		{"below, half too far", 50, 7, 0, 5, false},
		{"below, half too near", 50, 6, 0, 5, true},
		{"above, half too far", 50, 93, 0, 5, false},
		{"above, half too near", 50, 94, 0, 5, true},
		{"turned: left", 7, 50, 1, 5, false},
		{"turned: below", 50, 7, 3, 5, true},
		{"turned: above", 50, 92, 1, 5, false},
		{"within", 3, 2, 0, 0, false},
		{"beyond the left edge", 2, 50, 0, 0, true},
		{"beyond the upper edge", 50, 99, 0, 0, true},
		{"beyond a corner", 100, 100, 0, 0, true},
	} {
		p := two(c.x, c.y, c.quarter)
		var want []string
		if c.want {
			want = []string{"a2"}
		}
		is(t, c.what, values(panel.Beyond(p, bodies(), c.edge)), values(want, api.OK))
	}
	is(t, "without bodies", values(panel.Beyond(two(0, 0, 0), []api.Body{{Part: "c", Wide: 1, High: 1}}, 100)), values(none[string](), api.OK))
	is(t, "all", values(panel.Beyond(two(50, 50, 0), append(bodies()[:1], api.Body{Part: "b", Wide: 1, High: 1}), api.MaxCoordinate)), values([]string{"a1", "a2", "b1"}, api.OK))
	exact := []api.Body{{Part: "a", Wide: 4, High: 4}}
	p := two(7, 50, 0) // from 5 to 9
	is(t, "as far as the edge", values(panel.Beyond(p, exact, 5)), values(none[string](), api.OK))
	is(t, "nearer than the edge", values(panel.Beyond(p, exact, 6)), values([]string{"a2"}, api.OK))
	wide := []api.Body{{Part: "a", Wide: api.MaxCoordinate, High: 1}}
	is(t, "wider than the board", values(panel.Beyond(p, wide, 0)), values([]string{"a1", "a2"}, api.OK))
}

func TestBodyErrors(t *testing.T) {
	most := func(n int) []api.Body {
		var b []api.Body
		for i := range n {
			b = append(b, api.Body{Part: fmt.Sprintf("p%05d", i), Wide: 1, High: 1})
		}
		return b
	}
	tooMany := most(api.MaxBodies + 1)
	tooMany[0].Part = ""
	for _, c := range []struct {
		what     string
		b        []api.Body
		distance int
		want     api.Errno
	}{
		{"none", nil, 0, api.OK},
		{"most", most(api.MaxBodies), api.MaxCoordinate, api.OK},
		{"too many", tooMany, -1, api.ErrLarge},
		{"no part", []api.Body{{Part: "a", Wide: 1, High: 1}, {Wide: 0, High: 1}}, -1, api.ErrName},
		{"wide 0", []api.Body{{Part: "a", Wide: 0, High: 1}}, 0, api.ErrArg},
		{"high 0", []api.Body{{Part: "a", Wide: 1, High: 0}}, 0, api.ErrArg},
		{"largest", []api.Body{{Part: "a", Wide: api.MaxCoordinate, High: api.MaxCoordinate}}, 0, api.OK},
		{"too wide", []api.Body{{Part: "a", Wide: api.MaxCoordinate + 1, High: 1}}, 0, api.ErrArg},
		{"too high", []api.Body{{Part: "a", Wide: 1, High: math.MaxInt}}, 0, api.ErrArg},
		{"number before order", []api.Body{{Part: "b", Wide: 1, High: 1}, {Part: "a", Wide: -1, High: 1}}, 0, api.ErrArg},
		{"falling", []api.Body{{Part: "b", Wide: 1, High: 1}, {Part: "a", Wide: 1, High: 1}}, -1, api.ErrOrder},
		{"twice", []api.Body{{Part: "b", Wide: 1, High: 1}, {Part: "b", Wide: 1, High: 1}, {}}, 0, api.ErrOrder},
		{"distance below 0", bodies(), -1, api.ErrArg},
		{"least int", bodies(), math.MinInt, api.ErrArg},
		{"distance too great", bodies(), api.MaxCoordinate + 1, api.ErrArg},
		{"greatest int", bodies(), math.MaxInt, api.ErrArg},
	} {
		pairs, e := panel.Crowded(two(50, 50, 0), c.b, c.distance)
		is(t, "Crowded: "+c.what, e, c.want)
		names, f := panel.Beyond(two(50, 50, 0), c.b, c.distance)
		is(t, "Beyond: "+c.what, f, c.want)
		if c.want != api.OK {
			is(t, c.what, list{len(pairs), len(names)}, list{0, 0})
		}
	}
}

// TestBodiesExactly compares with fractions.
func TestBodiesExactly(t *testing.T) {
	r := rand.New(rand.NewSource(2))
	for range 300 {
		p := api.Product{Key: "p", Wide: 30, High: 20}
		for i := range 6 {
			p.Placements = append(p.Placements, api.Placement{Name: fmt.Sprint("c", i), Part: fmt.Sprint("p", r.Intn(4)), X: r.Intn(31), Y: r.Intn(21), Quarter: r.Intn(4)})
		}
		var b []api.Body
		for i := range 3 {
			b = append(b, api.Body{Part: fmt.Sprint("p", i), Wide: 1 + r.Intn(8), High: 1 + r.Intn(8)})
		}
		gap := r.Intn(5)
		var pairs []api.Pair
		var names []string
		for i, c := range p.Placements {
			x, y, ok := edges(c, b)
			if !ok {
				continue
			}
			if least := big.NewRat(int64(gap), 1); x[0].Cmp(least) < 0 || y[0].Cmp(least) < 0 || sub(big.NewRat(30, 1), x[1]).Cmp(least) < 0 || sub(big.NewRat(20, 1), y[1]).Cmp(least) < 0 {
				names = append(names, c.Name)
			}
			for _, d := range p.Placements[i+1:] {
				u, v, ok := edges(d, b)
				if ok && nearer(x, u, gap) && nearer(y, v, gap) {
					pairs = append(pairs, api.Pair{Name: c.Name, Value: d.Name})
				}
			}
		}
		is(t, "crowded", values(panel.Crowded(p, b, gap)), values(pairs, api.OK))
		is(t, "beyond", values(panel.Beyond(p, b, gap)), values(names, api.OK))
	}
}

func sub(a, b *big.Rat) *big.Rat { return new(big.Rat).Sub(a, b) }

// nearer says whether two spans overlap, or the distance of their nearest ends is less than a gap.
func nearer(a, b [2]*big.Rat, gap int) bool {
	if a[0].Cmp(b[1]) < 0 && b[0].Cmp(a[1]) < 0 {
		return true
	}
	far := sub(b[0], a[1])
	if far.Sign() < 0 {
		far = sub(a[0], b[1])
	}
	return far.Cmp(big.NewRat(int64(gap), 1)) < 0
}

func edges(c api.Placement, b []api.Body) (x, y [2]*big.Rat, ok bool) {
	for _, body := range b {
		if body.Part == c.Part {
			w, h := big.NewRat(int64(body.Wide), 2), big.NewRat(int64(body.High), 2)
			if c.Quarter == 1 || c.Quarter == 3 {
				w, h = h, w
			}
			cx, cy := big.NewRat(int64(c.X), 1), big.NewRat(int64(c.Y), 1)
			return [2]*big.Rat{sub(cx, w), new(big.Rat).Add(cx, w)}, [2]*big.Rat{sub(cy, h), new(big.Rat).Add(cy, h)}, true
		}
	}
	return x, y, false
}
