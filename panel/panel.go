// Package panel places the components of boards on panels.
package panel

import (
	"slices"
	"strings"

	"reelfeeder/api"
	"reelfeeder/whole"
	"reelfeeder/word"
)

// CheckProduct validates a product.
func CheckProduct(p api.Product) api.Errno {
	if !word.Key(p.Key) {
		return api.ErrName
	}
	if !validSize(p.Wide, p.High) {
		return api.ErrArg
	}
	if len(p.Placements) > api.MaxPlacements {
		return api.ErrLarge
	}
	for i, c := range p.Placements {
		switch {
		case !word.Key(c.Name) || !word.Key(c.Part):
			return api.ErrName
		case i > 0 && c.Name <= p.Placements[i-1].Name:
			return api.ErrOrder
		case !whole.Within(c.X, 0, p.Wide) || !whole.Within(c.Y, 0, p.High) || !validQuarter(c.Quarter):
			return api.ErrArg
		}
	}
	return api.OK
}

// CheckPanel validates a panel of boards of a product.
func CheckPanel(p api.Product, n api.Panel) api.Errno {
	if e := CheckProduct(p); e != api.OK {
		return e
	}
	if !validSize(n.Wide, n.High) {
		return api.ErrArg
	}
	if len(n.Slots) > api.MaxSlots {
		return api.ErrLarge
	}
	for _, s := range n.Slots {
		if !validDistance(s.X) || !validDistance(s.Y) || !validQuarter(s.Quarter) {
			return api.ErrArg
		}
	}
	return api.OK
}

func validSize(wide, high int) bool {
	return whole.Within(wide, 1, api.MaxCoordinate) && whole.Within(high, 1, api.MaxCoordinate)
}

func validDistance(n int) bool { return whole.Within(n, 0, api.MaxCoordinate) }

func validQuarter(q int) bool { return whole.Within(q, 0, 3) }

// Needs is how often each part is placed.
func Needs(p api.Product) ([]api.Need, api.Errno) {
	if e := CheckProduct(p); e != api.OK {
		return nil, e
	}
	var parts []string
	for _, c := range p.Placements {
		parts = append(parts, c.Part)
	}
	slices.Sort(parts)
	var needs []api.Need
	for i, part := range parts {
		if i == 0 || part != parts[i-1] {
			needs = append(needs, api.Need{Part: part})
		}
		needs[len(needs)-1].Many++
	}
	return needs, api.OK
}

// Changed are the placements that are only in the first product, only in the second one, and in both with something else.
func Changed(x, y api.Product) ([]string, []string, []string, api.Errno) {
	if e := CheckProduct(x); e != api.OK {
		return nil, nil, nil, e
	}
	if e := CheckProduct(y); e != api.OK {
		return nil, nil, nil, e
	}
	var first, second, both []string
	a, b := x.Placements, y.Placements
	for len(a) > 0 && len(b) > 0 {
		switch strings.Compare(a[0].Name, b[0].Name) {
		case -1:
			first, a = append(first, a[0].Name), a[1:]
		case 1:
			second, b = append(second, b[0].Name), b[1:]
		default:
			if a[0] != b[0] {
				both = append(both, a[0].Name)
			}
			a, b = a[1:], b[1:]
		}
	}
	return append(first, names(a)...), append(second, names(b)...), both, api.OK
}

func names(l []api.Placement) []string {
	var list []string
	for _, c := range l {
		list = append(list, c.Name)
	}
	return list
}
