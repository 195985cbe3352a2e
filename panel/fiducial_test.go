package panel_test

import (
	"math"
	"math/big"
	"math/rand"
	"testing"

	"reelfeeder/api"
	"reelfeeder/panel"
)

type points = [2]api.Point

func pt(x, y int) api.Point { return api.Point{X: x, Y: y} }

const far = api.MaxCoordinate

func TestCorrected(t *testing.T) {
	for _, c := range []struct {
		what              string
		nominal, measured points
		point, want       api.Point
	}{
		{"not moved", points{pt(3, 4), pt(-7, 9)}, points{pt(3, 4), pt(-7, 9)}, pt(123, -456), pt(123, -456)},
		{"shifted", points{pt(0, 0), pt(10, 0)}, points{pt(5, -3), pt(15, -3)}, pt(7, 8), pt(12, 5)},
		{"turned by a quarter", points{pt(0, 0), pt(100, 0)}, points{pt(5, 5), pt(5, 105)}, pt(10, 20), pt(-15, 15)},
		{"turned by half", points{pt(1, 1), pt(3, 1)}, points{pt(3, 1), pt(1, 1)}, pt(1, 5), pt(3, -3)},
		{"stretched", points{pt(0, 0), pt(2, 0)}, points{pt(0, 0), pt(6, 0)}, pt(1, 2), pt(3, 6)},
		{"turned and stretched", points{pt(0, 0), pt(1, 0)}, points{pt(0, 0), pt(1, 1)}, pt(0, 1), pt(-1, 1)},
		{"the first fiducial", points{pt(9, 8), pt(1, 2)}, points{pt(-5, 7), pt(4, 4)}, pt(9, 8), pt(-5, 7)},
		{"the second fiducial", points{pt(9, 8), pt(1, 2)}, points{pt(-5, 7), pt(4, 4)}, pt(1, 2), pt(4, 4)},
		{"halves up", points{pt(0, 0), pt(2, 0)}, points{pt(0, 0), pt(1, 0)}, pt(1, 3), pt(1, 2)},
		{"halves up below 0", points{pt(0, 0), pt(2, 0)}, points{pt(0, 0), pt(1, 0)}, pt(-1, -3), pt(0, -1)},
		{"thirds", points{pt(0, 0), pt(3, 0)}, points{pt(0, 0), pt(1, 0)}, pt(1, 2), pt(0, 1)},
		{"thirds below 0", points{pt(0, 0), pt(3, 0)}, points{pt(0, 0), pt(1, 0)}, pt(-1, -2), pt(0, -1)},
		{"greatest", points{pt(-far, -far), pt(-far, -far+1)}, points{pt(far, far), pt(-far, -far)}, pt(far, far), pt(far-8*far*far, far)},
	} {
		is(t, c.what, values(panel.Corrected(c.nominal, c.measured, c.point)), values(c.want, api.OK))
	}
}

// exact maps a point with numbers of any size: by the inverse of nominal differences, as complex fractions.
func exact(nominal, measured points, p api.Point) api.Point {
	rat := func(n int) *big.Rat { return new(big.Rat).SetInt64(int64(n)) }
	mul := func(a, b *big.Rat) *big.Rat { return new(big.Rat).Mul(a, b) }
	add := func(a, b *big.Rat) *big.Rat { return new(big.Rat).Add(a, b) }
	dx, dy := rat(nominal[1].X-nominal[0].X), rat(nominal[1].Y-nominal[0].Y)
	ex, ey := rat(measured[1].X-measured[0].X), rat(measured[1].Y-measured[0].Y)
	qx, qy := rat(p.X-nominal[0].X), rat(p.Y-nominal[0].Y)
	long := new(big.Rat).Inv(add(mul(dx, dx), mul(dy, dy)))
	// q / d: how far the point is along and beside the line of the fiducials
	along := mul(add(mul(qx, dx), mul(qy, dy)), long)
	beside := mul(sub(mul(qy, dx), mul(qx, dy)), long)
	x := add(rat(measured[0].X), sub(mul(ex, along), mul(ey, beside)))
	y := add(rat(measured[0].Y), add(mul(ey, along), mul(ex, beside)))
	return pt(rounded(x), rounded(y))
}

func rounded(r *big.Rat) int {
	up := new(big.Rat).Add(r, big.NewRat(1, 2))
	return int(new(big.Int).Div(up.Num(), up.Denom()).Int64()) // Div rounds down, as the denominator is above 0
}

func TestCorrectedExactly(t *testing.T) {
	r := rand.New(rand.NewSource(3))
	for _, most := range []int{3, 50, far} {
		for range 2000 {
			n := func() int {
				if r.Intn(3) == 0 {
					return []int{-most, most}[r.Intn(2)]
				}
				return r.Intn(2*most+1) - most
			}
			nominal, measured, p := points{pt(n(), n()), pt(n(), n())}, points{pt(n(), n()), pt(n(), n())}, pt(n(), n())
			if r.Intn(4) == 0 { // neighbours stretch most
				nominal[1] = pt(nominal[0].X, nominal[0].Y^1)
			}
			if nominal[0] == nominal[1] || measured[0] == measured[1] || nominal[1].Y > far {
				continue
			}
			is(t, "corrected", values(panel.Corrected(nominal, measured, p)), values(exact(nominal, measured, p), api.OK))
		}
	}
}

func TestStretch(t *testing.T) {
	for _, c := range []struct {
		what              string
		nominal, measured points
		want              api.Fraction
	}{
		{"not moved", points{pt(3, 4), pt(-7, 9)}, points{pt(3, 4), pt(-7, 9)}, api.Fraction{Num: 1, Den: 1}},
		{"turned", points{pt(0, 0), pt(3, 4)}, points{pt(9, 9), pt(9, 4)}, api.Fraction{Num: 1, Den: 1}},
		{"twice as long", points{pt(0, 0), pt(1, 0)}, points{pt(0, 0), pt(0, -2)}, api.Fraction{Num: 4, Den: 1}},
		{"shorter", points{pt(0, 0), pt(6, 0)}, points{pt(0, 0), pt(4, 0)}, api.Fraction{Num: 4, Den: 9}},
		{"diagonal", points{pt(0, 0), pt(2, 2)}, points{pt(0, 0), pt(0, 6)}, api.Fraction{Num: 9, Den: 2}},
		{"greatest", points{pt(0, 0), pt(1, 0)}, points{pt(-far, -far), pt(far, far)}, api.Fraction{Num: 8 * far * far, Den: 1}},
		{"least", points{pt(-far, -far), pt(far, far)}, points{pt(0, 0), pt(1, 0)}, api.Fraction{Num: 1, Den: 8 * far * far}},
	} {
		is(t, c.what, values(panel.Stretch(c.nominal, c.measured)), values(c.want, api.OK))
	}
}

func TestFiducialErrors(t *testing.T) {
	good := func() [5]api.Point {
		return [5]api.Point{pt(0, 0), pt(10, 0), pt(far, -far), pt(-far, far), pt(far, -far)}
	}
	check := func(what string, p [5]api.Point, want, stretch api.Errno) {
		t.Helper()
		q, e := panel.Corrected(points{p[0], p[1]}, points{p[2], p[3]}, p[4])
		is(t, what, e, want)
		f, g := panel.Stretch(points{p[0], p[1]}, points{p[2], p[3]})
		is(t, what, g, stretch)
		if e != api.OK {
			is(t, what, q, api.Point{})
		}
		if g != api.OK {
			is(t, what, f, api.Fraction{})
		}
	}
	check("good", good(), api.OK, api.OK)
	for i := range 5 {
		for _, n := range []int{far + 1, -far - 1, math.MaxInt, math.MinInt} {
			stretch := api.ErrArg
			if i == 4 {
				stretch = api.OK
			}
			p := good()
			p[i].X = n
			check("x out of range", p, api.ErrArg, stretch)
			p = good()
			p[i].Y = n
			check("y out of range", p, api.ErrArg, stretch)
		}
	}
	p := good()
	p[1] = p[0]
	check("nominal ones equal", p, api.ErrRule, api.ErrRule)
	p[4].X = far + 1
	check("range of the point before rule", p, api.ErrArg, api.ErrRule)
	p[3].Y = far + 1
	check("range before rule", p, api.ErrArg, api.ErrArg)
	p = good()
	p[2] = p[3]
	check("measured ones equal", p, api.ErrRule, api.ErrRule)
}
