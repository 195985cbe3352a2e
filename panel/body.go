package panel

import (
	"slices"
	"strings"

	"reelfeeder/api"
	"reelfeeder/word"
)

// Crowded are the pairs of placements whose bodies are nearer than a gap.
func Crowded(p api.Product, b []api.Body, gap int) ([]api.Pair, api.Errno) {
	if e := checkDistance(p, b, gap); e != api.OK {
		return nil, e
	}
	names, areas := bodyAreas(p, b)
	var pairs []api.Pair
	nearPairs(areas, 2*gap, func(i, j int) { pairs = append(pairs, api.Pair{Name: names[i], Value: names[j]}) })
	return pairs, api.OK
}

// Beyond are the placements whose bodies are nearer to an edge of the board than a distance.
func Beyond(p api.Product, b []api.Body, edge int) ([]string, api.Errno) {
	if e := checkDistance(p, b, edge); e != api.OK {
		return nil, e
	}
	names, areas := bodyAreas(p, b)
	var beyond []string
	for i, a := range areas {
		if min(a.x.from, a.y.from, 2*p.Wide-a.x.to, 2*p.High-a.y.to) < 2*edge {
			beyond = append(beyond, names[i])
		}
	}
	return beyond, api.OK
}

// checkDistance validates a product, bodies, and a distance between or around them.
func checkDistance(p api.Product, b []api.Body, distance int) api.Errno {
	if e := CheckProduct(p); e != api.OK {
		return e
	}
	if e := checkBodies(b); e != api.OK {
		return e
	}
	if !validDistance(distance) {
		return api.ErrArg
	}
	return api.OK
}

func checkBodies(b []api.Body) api.Errno {
	if len(b) > api.MaxBodies {
		return api.ErrLarge
	}
	for i, body := range b {
		switch {
		case !word.Key(body.Part):
			return api.ErrName
		case !validSize(body.Wide, body.High):
			return api.ErrArg
		case i > 0 && body.Part <= b[i-1].Part:
			return api.ErrOrder
		}
	}
	return api.OK
}

// bodyAreas are the names of the placements that have bodies, and their areas in half micrometres: in these all
// edges are whole, as a body can reach an odd number of halves from its center.
func bodyAreas(p api.Product, b []api.Body) ([]string, []area) {
	var names []string
	var areas []area
	for _, c := range p.Placements {
		i, found := slices.BinarySearchFunc(b, c.Part, func(body api.Body, part string) int {
			return strings.Compare(body.Part, part)
		})
		if !found {
			continue
		}
		wide, high := turnedSize(b[i].Wide, b[i].High, c.Quarter)
		names = append(names, c.Name)
		areas = append(areas, area{span{2*c.X - wide, 2*c.X + wide}, span{2*c.Y - high, 2*c.Y + high}})
	}
	return names, areas
}
