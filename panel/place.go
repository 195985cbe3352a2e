package panel

import (
	"slices"
	"strings"

	"reelfeeder/api"
)

// At is where a component of the board in a slot is.
func At(p api.Product, n api.Panel, slot int, name string) (api.Spot, api.Errno) {
	if e := CheckPanel(p, n); e != api.OK {
		return api.Spot{}, e
	}
	if slot < 0 || slot >= len(n.Slots) {
		return api.Spot{}, api.ErrNone
	}
	i, found := slices.BinarySearchFunc(p.Placements, name, func(c api.Placement, name string) int {
		return strings.Compare(c.Name, name)
	})
	if !found {
		return api.Spot{}, api.ErrNone
	}
	return placing(p, n, slot)(p.Placements[i]), api.OK
}

// Spots are where all components are.
func Spots(p api.Product, n api.Panel) ([]api.Spot, api.Errno) {
	if e := CheckPanel(p, n); e != api.OK {
		return nil, e
	}
	var spots []api.Spot
	for i, s := range n.Slots {
		if s.Skip {
			continue
		}
		place := placing(p, n, i)
		for _, c := range p.Placements {
			spots = append(spots, place(c))
		}
	}
	return spots, api.OK
}

// placing is how the components of the board in a slot come to the panel.
func placing(p api.Product, n api.Panel, slot int) func(c api.Placement) api.Spot {
	s := n.Slots[slot]
	turn := turning(p, s.Quarter)
	return func(c api.Placement) api.Spot {
		x, y := turn(c.X, c.Y)
		return api.Spot{Slot: slot, Name: c.Name, X: s.X + x, Y: s.Y + y, Quarter: (s.Quarter + c.Quarter) % 4}
	}
}

// turning is where points of a board are, from the lower left corner of the board turned by so many quarters.
func turning(p api.Product, quarter int) func(x, y int) (int, int) {
	switch quarter {
	case 1:
		return func(x, y int) (int, int) { return p.High - y, x }
	case 2:
		return func(x, y int) (int, int) { return p.Wide - x, p.High - y }
	case 3:
		return func(x, y int) (int, int) { return y, p.Wide - x }
	}
	return func(x, y int) (int, int) { return x, y }
}

// Turned is the panel turned by one quarter.
func Turned(p api.Product, n api.Panel) (api.Panel, api.Errno) {
	if e := CheckPanel(p, n); e != api.OK {
		return api.Panel{}, e
	}
	turned := api.Panel{Wide: n.High, High: n.Wide}
	for _, s := range n.Slots {
		// the upper left corner of the board is the lower left one afterwards
		top := boardArea(p, s).y.to
		turned.Slots = append(turned.Slots, api.Slot{X: n.High - top, Y: s.X, Quarter: (s.Quarter + 1) % 4, Skip: s.Skip})
	}
	// a board that was beyond the upper edge is left of the panel now
	if CheckPanel(p, turned) != api.OK {
		return api.Panel{}, api.ErrArg
	}
	return turned, api.OK
}

// Outside are the slots whose boards are not within the panel.
func Outside(p api.Product, n api.Panel) ([]int, api.Errno) {
	if e := CheckPanel(p, n); e != api.OK {
		return nil, e
	}
	var outside []int
	for i, s := range n.Slots {
		if a := boardArea(p, s); a.x.to > n.Wide || a.y.to > n.High {
			outside = append(outside, i)
		}
	}
	return outside, api.OK
}

// Overlaps are the pairs of slots whose boards overlap.
func Overlaps(p api.Product, n api.Panel) ([][2]int, api.Errno) {
	if e := CheckPanel(p, n); e != api.OK {
		return nil, e
	}
	var areas []area
	for _, s := range n.Slots {
		areas = append(areas, boardArea(p, s))
	}
	var pairs [][2]int
	nearPairs(areas, 0, func(i, j int) { pairs = append(pairs, [2]int{i, j}) })
	return pairs, api.OK
}
