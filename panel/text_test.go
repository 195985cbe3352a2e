package panel_test

import (
	"strings"
	"testing"

	"reelfeeder/api"
	"reelfeeder/panel"
)

func TestText(t *testing.T) {
	is(t, "text", values(panel.Text(board())), values("product p 100 40\nplace c1 cap 10 5 0\nplace r1 res 50 20 1\nplace r2 cap 100 40 3\n", api.OK))
	is(t, "no placements", values(panel.Text(api.Product{Key: "a-b_c", Wide: 1, High: api.MaxCoordinate})), values("product a-b_c 1 500000\n", api.OK))
}

// longest is the product with the longest text.
func longest() api.Product {
	p := many(api.MaxPlacements)
	p.Key, p.Wide, p.High = long, api.MaxCoordinate, api.MaxCoordinate
	for i := range p.Placements {
		c := &p.Placements[i]
		*c = api.Placement{Name: c.Name + strings.Repeat("x", api.MaxName-len(c.Name)), Part: long, X: api.MaxCoordinate, Y: api.MaxCoordinate, Quarter: 3}
	}
	return p
}

func TestReadText(t *testing.T) {
	for _, p := range []api.Product{board(), {Key: "p", Wide: 1, High: 1}, two(3, 4, 1), many(api.MaxPlacements), longest()} {
		text, e := panel.Text(p)
		is(t, "text", e, api.OK)
		got, line, e := panel.Read(text)
		is(t, "read", list{got, line, e}, list{p, 0, api.OK})
	}
}

func TestReadErrors(t *testing.T) {
	const head = "product p 100 40\n"
	for _, c := range []struct {
		text string
		line int
		want api.Errno
	}{
		{"", 0, api.ErrSyntax},
		{"\n", 0, api.ErrSyntax},
		{"product p 100 40", 0, api.ErrSyntax},
		{"product p 100 40\r\n", 0, api.ErrSyntax},
		{"Product p 100 40\n", 0, api.ErrSyntax},
		{"product p 100\n", 0, api.ErrSyntax},
		{"product p 100 40 1\n", 0, api.ErrSyntax},
		{"product  p 100 40\n", 0, api.ErrSyntax},
		{" product p 100 40\n", 0, api.ErrSyntax},
		{"product p 100 40 \n", 0, api.ErrSyntax},
		{"product  100 40\n", 0, api.ErrSyntax},
		{"product p x 40\n", 0, api.ErrSyntax},
		{"product p 100 040\n", 0, api.ErrSyntax},
		{"product p 100 -0\n", 0, api.ErrSyntax},
		{"product p +100 40\n", 0, api.ErrSyntax},
		{"product p 1000000000000000 40\n", 0, api.ErrSyntax},
		{"place a b 1 2 3\n", 0, api.ErrSyntax},
		{"place a b 1 2 3\n" + head, 0, api.ErrSyntax},
		{head + head, 1, api.ErrSyntax},
		{head + "\n", 1, api.ErrSyntax},
		{head + "\nplace a b 1 2 3\n", 1, api.ErrSyntax},
		{head + "place a b 1 2 3", 1, api.ErrSyntax},
		{head + "place a b 1 2\n", 1, api.ErrSyntax},
		{head + "place a b 1 2 3 4\n", 1, api.ErrSyntax},
		{head + "place a b 1 2 x\n", 1, api.ErrSyntax},
		{head + "place a b 1 -0 3\n", 1, api.ErrSyntax},
		{head + "place a b 01 2 3\n", 1, api.ErrSyntax},
		{head + "place a b 1  2 3\n", 1, api.ErrSyntax},
		{head + "place  b 1 2 3\n", 1, api.ErrSyntax},
		{head + "place a b 1 2 1000000000000000\n", 1, api.ErrSyntax},
		{head + "put a b 1 2 3\n", 1, api.ErrSyntax},
		{head + "place a b 1 2 3\nplace c d 1 2 3\nplace e f 1 2\nplace\n", 3, api.ErrSyntax},
		{head + "place A b 1 2 3\nplace c d\n", 2, api.ErrSyntax}, // the form comes before names
		{"product P 100 40\n", 0, api.ErrName},
		{"product \xff 100 40\n", 0, api.ErrName},
		{"product p\t 100 40\n", 0, api.ErrName},
		{"product p 0 40\n", 0, api.ErrArg},
		{"product p 100 -40\n", 0, api.ErrArg},
		{"product p 100 999999999999999\n", 0, api.ErrArg},
		{"product p 100 -999999999999999\n", 0, api.ErrArg},
		{head + "place A b 1 2 3\n", 0, api.ErrName},
		{head + "place a b 101 2 3\n", 0, api.ErrArg},
		{head + "place a b -1 2 3\n", 0, api.ErrArg},
		{head + "place a b 1 2 4\n", 0, api.ErrArg},
		{head + "place b b 1 2 3\nplace a b 1 2 3\n", 0, api.ErrOrder},
		{head + strings.Repeat("place a b 1 2 3\n", api.MaxPlacements+1), 0, api.ErrLarge},
		{head + strings.Repeat("place a b 1 2 3\n", api.MaxPlacements+1) + "x\n", api.MaxPlacements + 2, api.ErrSyntax},
		{strings.Repeat("x", api.MaxText), 0, api.ErrSyntax},
		{strings.Repeat("x", api.MaxText+1), 0, api.ErrLarge},
		{head + strings.Repeat("\n", api.MaxText), 0, api.ErrLarge},
		{"product " + strings.Repeat("p", api.MaxText-len("product  1 1\n")) + " 1 1\n", 0, api.ErrName},
	} {
		got, line, e := panel.Read(c.text)
		is(t, c.text[:min(len(c.text), 60)], list{got, line, e}, list{api.Product{}, c.line, c.want})
	}
}
