package panel_test

import (
	"fmt"
	"math"
	"strings"
	"testing"

	"reelfeeder/api"
	"reelfeeder/panel"
)

// is compares values; a nil list is the same as an empty one.
func is(t *testing.T, what string, got, want any) {
	t.Helper()
	if g, w := fmt.Sprintf("%+v", got), fmt.Sprintf("%+v", want); g != w {
		t.Errorf("%s: got %.300s, want %.300s", what, g, w)
	}
}

type list = []any

// board is a product of 100 by 40 with three placements.
func board() api.Product {
	return api.Product{Key: "p", Wide: 100, High: 40, Placements: []api.Placement{
		{Name: "c1", Part: "cap", X: 10, Y: 5},
		{Name: "r1", Part: "res", X: 50, Y: 20, Quarter: 1},
		{Name: "r2", Part: "cap", X: 100, Y: 40, Quarter: 3},
	}}
}

// four is a panel with a board at each quarter.
func four() api.Panel {
	return api.Panel{Wide: 400, High: 300, Slots: []api.Slot{
		{X: 0, Y: 0}, {X: 100, Y: 10, Quarter: 1}, {X: 200, Y: 20, Quarter: 2}, {X: 300, Y: 30, Quarter: 3},
	}}
}

// many is a product with so many placements.
func many(n int) api.Product {
	p := api.Product{Key: "many", Wide: 10, High: 10}
	for i := range n {
		p.Placements = append(p.Placements, api.Placement{Name: fmt.Sprintf("c%05d", i), Part: "cap", X: i % 11})
	}
	return p
}

func slots(n int) api.Panel {
	return api.Panel{Wide: 10, High: 10, Slots: make([]api.Slot, n)}
}

var long = strings.Repeat("k", api.MaxName)

func TestCheckProduct(t *testing.T) {
	cases := []struct {
		what   string
		change func(p *api.Product)
		want   api.Errno
	}{
		{"as it is", func(p *api.Product) {}, api.OK},
		{"no placements", func(p *api.Product) { p.Placements = nil }, api.OK},
		{"long key", func(p *api.Product) { p.Key = long }, api.OK},
		{"key too long", func(p *api.Product) { p.Key = long + "k" }, api.ErrName},
		{"no key", func(p *api.Product) { p.Key = "" }, api.ErrName},
		{"key before size", func(p *api.Product) { p.Key, p.Wide = "P", 0 }, api.ErrName},
		{"wide 0", func(p *api.Product) { p.Wide = 0 }, api.ErrArg},
		{"wide below 0", func(p *api.Product) { p.Wide = math.MinInt }, api.ErrArg},
		{"widest", func(p *api.Product) { p.Wide = api.MaxCoordinate }, api.OK},
		{"too wide", func(p *api.Product) { p.Wide = api.MaxCoordinate + 1 }, api.ErrArg},
		{"high 0", func(p *api.Product) { p.High = 0 }, api.ErrArg},
		{"highest", func(p *api.Product) { p.High = api.MaxCoordinate }, api.OK},
		{"too high", func(p *api.Product) { p.High = math.MaxInt }, api.ErrArg},
		{"smallest", func(p *api.Product) { p.Wide, p.High, p.Placements = 1, 1, nil }, api.OK},
		{"most placements", func(p *api.Product) { *p = many(api.MaxPlacements) }, api.OK},
		{"too many placements", func(p *api.Product) { *p = many(api.MaxPlacements + 1) }, api.ErrLarge},
		{"many before their errors", func(p *api.Product) { *p = many(api.MaxPlacements + 1); p.Placements[0].Name = "" }, api.ErrLarge},
		{"size before many", func(p *api.Product) { *p = many(api.MaxPlacements + 1); p.High = 0 }, api.ErrArg},
		{"bad name", func(p *api.Product) { p.Placements[1].Name = "r 1" }, api.ErrName},
		{"bad part", func(p *api.Product) { p.Placements[1].Part = "" }, api.ErrName},
		{"name twice", func(p *api.Product) { p.Placements[2].Name = "r1" }, api.ErrOrder},
		{"names falling", func(p *api.Product) { p.Placements[2].Name = "r0" }, api.ErrOrder},
		{"names compared by bytes", func(p *api.Product) { p.Placements[1].Name, p.Placements[2].Name = "r10", "r9" }, api.OK},
		{"name before order", func(p *api.Product) { p.Placements[1].Name, p.Placements[1].Part = "a", "" }, api.ErrName},
		{"order before number", func(p *api.Product) { p.Placements[1].Name, p.Placements[1].X = "a", -1 }, api.ErrOrder},
		{"earlier placement first", func(p *api.Product) { p.Placements[1].X, p.Placements[2].Name = -1, "" }, api.ErrArg},
		{"x below 0", func(p *api.Product) { p.Placements[0].X = -1 }, api.ErrArg},
		{"x at the edge", func(p *api.Product) { p.Placements[0].X = 100 }, api.OK},
		{"x beyond", func(p *api.Product) { p.Placements[0].X = 101 }, api.ErrArg},
		{"y below 0", func(p *api.Product) { p.Placements[0].Y = math.MinInt }, api.ErrArg},
		{"y at the edge", func(p *api.Product) { p.Placements[0].Y = 40 }, api.OK},
		{"y beyond", func(p *api.Product) { p.Placements[0].Y = 41 }, api.ErrArg},
		{"quarter below 0", func(p *api.Product) { p.Placements[0].Quarter = -1 }, api.ErrArg},
		{"quarter 4", func(p *api.Product) { p.Placements[0].Quarter = 4 }, api.ErrArg},
	}
	for _, c := range cases {
		p := board()
		c.change(&p)
		is(t, c.what, panel.CheckProduct(p), c.want)
	}
}

func TestCheckPanel(t *testing.T) {
	cases := []struct {
		what   string
		change func(p *api.Product, n *api.Panel)
		want   api.Errno
	}{
		{"as it is", func(p *api.Product, n *api.Panel) {}, api.OK},
		{"no slots", func(p *api.Product, n *api.Panel) { n.Slots = nil }, api.OK},
		{"smaller than the board", func(p *api.Product, n *api.Panel) { n.Wide, n.High = 1, 1 }, api.OK},
		{"product first", func(p *api.Product, n *api.Panel) { p.Key, n.Wide = "", 0 }, api.ErrName},
		{"wide 0", func(p *api.Product, n *api.Panel) { n.Wide = 0 }, api.ErrArg},
		{"widest", func(p *api.Product, n *api.Panel) { n.Wide = api.MaxCoordinate }, api.OK},
		{"too wide", func(p *api.Product, n *api.Panel) { n.Wide = api.MaxCoordinate + 1 }, api.ErrArg},
		{"high below 0", func(p *api.Product, n *api.Panel) { n.High = -1 }, api.ErrArg},
		{"too high", func(p *api.Product, n *api.Panel) { n.High = math.MaxInt }, api.ErrArg},
		{"most slots", func(p *api.Product, n *api.Panel) { *n = slots(api.MaxSlots) }, api.OK},
		{"too many slots", func(p *api.Product, n *api.Panel) { *n = slots(api.MaxSlots + 1); n.Slots[0].X = -1 }, api.ErrLarge},
		{"size before many", func(p *api.Product, n *api.Panel) { *n = slots(api.MaxSlots + 1); n.Wide = 0 }, api.ErrArg},
		{"x below 0", func(p *api.Product, n *api.Panel) { n.Slots[3].X = -1 }, api.ErrArg},
		{"x at the limit", func(p *api.Product, n *api.Panel) { n.Slots[3].X = api.MaxCoordinate }, api.OK},
		{"x beyond", func(p *api.Product, n *api.Panel) { n.Slots[3].X = api.MaxCoordinate + 1 }, api.ErrArg},
		{"y below 0", func(p *api.Product, n *api.Panel) { n.Slots[3].Y = -1 }, api.ErrArg},
		{"y at the limit", func(p *api.Product, n *api.Panel) { n.Slots[3].Y = api.MaxCoordinate }, api.OK},
		{"y beyond", func(p *api.Product, n *api.Panel) { n.Slots[3].Y = math.MaxInt }, api.ErrArg},
		{"quarter below 0", func(p *api.Product, n *api.Panel) { n.Slots[0].Quarter = -1 }, api.ErrArg},
		{"quarter 4", func(p *api.Product, n *api.Panel) { n.Slots[0].Quarter = 4 }, api.ErrArg},
		{"skipped slots too", func(p *api.Product, n *api.Panel) { n.Slots[0] = api.Slot{Quarter: 4, Skip: true} }, api.ErrArg},
	}
	for _, c := range cases {
		p, n := board(), four()
		c.change(&p, &n)
		is(t, c.what, panel.CheckPanel(p, n), c.want)
	}
}

func TestNeeds(t *testing.T) {
	needs, e := panel.Needs(board())
	is(t, "needs", list{needs, e}, list{[]api.Need{{Part: "cap", Many: 2}, {Part: "res", Many: 1}}, api.OK})
	p := board()
	p.Placements[0].Part = "zener"
	needs, e = panel.Needs(p)
	is(t, "by part", list{needs, e}, list{[]api.Need{{Part: "cap", Many: 1}, {Part: "res", Many: 1}, {Part: "zener", Many: 1}}, api.OK})
	needs, e = panel.Needs(api.Product{Key: "p", Wide: 1, High: 1})
	is(t, "none", list{needs, e}, list{none[api.Need](), api.OK})
	needs, e = panel.Needs(many(api.MaxPlacements))
	is(t, "most", list{needs, e}, list{[]api.Need{{Part: "cap", Many: api.MaxPlacements}}, api.OK})
}

func none[T any]() []T { return nil }

// TestFirstErrors holds that each function returns the errors of products and of panels first, and no values with them (Z3).
func TestFirstErrors(t *testing.T) {
	bad, badPanel, badBodies := board(), four(), make([]api.Body, api.MaxBodies+1)
	bad.Placements[2].Name = "c1" // ErrOrder
	badPanel.Slots[0].Quarter = 4 // ErrArg
	for what, got := range map[string]list{
		"Needs":    values(panel.Needs(bad)),
		"At":       values(panel.At(bad, badPanel, -1, "")),
		"Spots":    values(panel.Spots(bad, badPanel)),
		"Outside":  values(panel.Outside(bad, badPanel)),
		"Overlaps": values(panel.Overlaps(bad, badPanel)),
		"Turned":   values(panel.Turned(bad, badPanel)),
		"Crowded":  values(panel.Crowded(bad, badBodies, -1)),
		"Beyond":   values(panel.Beyond(bad, badBodies, -1)),
		"Text":     values(panel.Text(bad)),
	} {
		noValue(t, what, got, api.ErrOrder)
	}
	for what, got := range map[string]list{
		"At":       values(panel.At(board(), badPanel, -1, "")),
		"Spots":    values(panel.Spots(board(), badPanel)),
		"Outside":  values(panel.Outside(board(), badPanel)),
		"Overlaps": values(panel.Overlaps(board(), badPanel)),
		"Turned":   values(panel.Turned(board(), badPanel)),
	} {
		noValue(t, what, got, api.ErrArg)
	}
}

func values[T any](v T, e api.Errno) list {
	var zero T
	return list{v, e, zero}
}

func noValue(t *testing.T, what string, got list, e api.Errno) {
	t.Helper()
	is(t, what, got[:2], list{got[2], e})
}

func TestChanged(t *testing.T) {
	x := api.Product{Key: "p", Wide: 100, High: 40, Placements: []api.Placement{
		{Name: "a", Part: "cap"}, {Name: "b", Part: "cap"}, {Name: "c", Part: "cap"}, {Name: "d", Part: "cap"},
		{Name: "e", Part: "cap"}, {Name: "f", Part: "cap"}, {Name: "h", Part: "cap"},
	}}
	y := api.Product{Key: "q", Wide: 90, High: 30, Placements: []api.Placement{
		{Name: "aa", Part: "cap"}, {Name: "b", Part: "res"}, {Name: "c", Part: "cap", X: 1}, {Name: "d", Part: "cap", Y: 1},
		{Name: "e", Part: "cap", Quarter: 1}, {Name: "f", Part: "cap"}, {Name: "g", Part: "cap"}, {Name: "z", Part: "cap"},
	}}
	empty := api.Product{Key: "p", Wide: 100, High: 40}
	first, second, both, e := panel.Changed(x, y)
	is(t, "changed", list{first, second, both, e}, list{"[a h]", "[aa g z]", "[b c d e]", api.OK})
	first, second, both, e = panel.Changed(y, x)
	is(t, "the other way", list{first, second, both, e}, list{"[aa g z]", "[a h]", "[b c d e]", api.OK})
	first, second, both, e = panel.Changed(x, x)
	is(t, "the same", list{first, second, both, e}, list{"[]", "[]", "[]", api.OK})
	first, second, both, e = panel.Changed(x, empty)
	is(t, "all gone", list{first, second, both, e}, list{"[a b c d e f h]", "[]", "[]", api.OK})
	first, second, both, e = panel.Changed(empty, x)
	is(t, "all new", list{first, second, both, e}, list{"[]", "[a b c d e f h]", "[]", api.OK})

	unnamed, flat := board(), board()
	unnamed.Key, flat.High = "", 0
	first, second, both, e = panel.Changed(unnamed, flat)
	is(t, "first's error", list{first, second, both, e}, list{"[]", "[]", "[]", api.ErrName})
	first, second, both, e = panel.Changed(flat, unnamed)
	is(t, "first's error", list{first, second, both, e}, list{"[]", "[]", "[]", api.ErrArg})
	first, second, both, e = panel.Changed(board(), unnamed)
	is(t, "second's error", list{first, second, both, e}, list{"[]", "[]", "[]", api.ErrName})
}
