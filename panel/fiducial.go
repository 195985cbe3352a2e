package panel

import (
	"reelfeeder/api"
	"reelfeeder/whole"
)

// Corrected maps a point by two fiducials.
func Corrected(nominal, measured [2]api.Point, point api.Point) (api.Point, api.Errno) {
	if e := checkFiducials(nominal, measured, point); e != api.OK {
		return api.Point{}, e
	}
	return similarity(nominal, measured)(point), api.OK
}

// Stretch is the square of the factor by which distances grow.
func Stretch(nominal, measured [2]api.Point) (api.Fraction, api.Errno) {
	if e := checkFiducials(nominal, measured); e != api.OK {
		return api.Fraction{}, e
	}
	before, after := minus(nominal[1], nominal[0]), minus(measured[1], measured[0])
	return whole.Lowest(square(after), square(before)), api.OK
}

// checkFiducials validates fiducials, and points beside them.
func checkFiducials(nominal, measured [2]api.Point, others ...api.Point) api.Errno {
	all := append([]api.Point{nominal[0], nominal[1], measured[0], measured[1]}, others...)
	for _, p := range all {
		if !validCoordinate(p.X) || !validCoordinate(p.Y) {
			return api.ErrArg
		}
	}
	if nominal[0] == nominal[1] || measured[0] == measured[1] {
		return api.ErrRule
	}
	return api.OK
}

func validCoordinate(n int) bool { return whole.Within(n, -api.MaxCoordinate, api.MaxCoordinate) }

// similarity is the mapping without mirroring that maps the nominal positions to the measured ones. Points are taken
// as complex numbers: it turns and stretches by after / before, which is after * mirrored(before) / square(before).
// Differences are at most 1,500,000 long, so a product of three of them fits in an int.
func similarity(nominal, measured [2]api.Point) func(p api.Point) api.Point {
	before, after := minus(nominal[1], nominal[0]), minus(measured[1], measured[0])
	turn, by := times(after, mirrored(before)), square(before)
	return func(p api.Point) api.Point {
		far := times(turn, minus(p, nominal[0]))
		return api.Point{X: measured[0].X + whole.Nearest(far.X, by), Y: measured[0].Y + whole.Nearest(far.Y, by)}
	}
}

func minus(a, b api.Point) api.Point { return api.Point{X: a.X - b.X, Y: a.Y - b.Y} }

func times(a, b api.Point) api.Point { return api.Point{X: a.X*b.X - a.Y*b.Y, Y: a.X*b.Y + a.Y*b.X} }

func mirrored(a api.Point) api.Point { return api.Point{X: a.X, Y: -a.Y} }

func square(a api.Point) int { return a.X*a.X + a.Y*a.Y }
