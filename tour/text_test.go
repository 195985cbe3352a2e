package tour_test

import (
	"fmt"
	"slices"
	"strings"
	"testing"

	"reelfeeder/api"
	"reelfeeder/tour"
)

func TestText(t *testing.T) {
	for _, c := range []struct {
		p    []api.Point
		want string
	}{
		{nil, ""},
		{points("10 0, 1 1, 5 2"), "10 0\n1 1\n5 2\n"},
		{points("-7 -10, -7 -10"), "-7 -10\n-7 -10\n"},
		{corners, "500000 500000\n-500000 500000\n500000 -500000\n-500000 -500000\n"},
		{slices.Repeat(corners[3:], api.MaxLong), strings.Repeat("-500000 -500000\n", api.MaxLong)},
	} {
		is(t, c.want, two(tour.Text(c.p)), list{c.want, api.OK})
		is(t, c.want, three(tour.Read(c.want)), list{c.p, 0, api.OK})
	}
}

func TestTextErrors(t *testing.T) {
	is(t, "too many", two(tour.Text(make([]api.Point, api.MaxLong+1))), list{"", api.ErrLarge})
	is(t, "the number first", two(tour.Text(append(make([]api.Point, api.MaxLong), outside[0]))), list{"", api.ErrLarge})
	for _, p := range outside {
		is(t, fmt.Sprint(p), two(tour.Text([]api.Point{{}, p})), list{"", api.ErrArg})
	}
}

func TestReadErrors(t *testing.T) {
	for _, c := range []struct {
		text string
		line int
		want api.Errno
	}{
		{"\n", 0, api.ErrSyntax},
		{"1 1\n1\n", 1, api.ErrSyntax},
		{"1 1\n1 1 1\n", 1, api.ErrSyntax},
		{"1 1\n\n", 1, api.ErrSyntax},
		{"1 1\n2 2", 1, api.ErrSyntax},
		{"1 1", 0, api.ErrSyntax},
		{" 1 1\n", 0, api.ErrSyntax},
		{"1 1 \n", 0, api.ErrSyntax},
		{"1  1\n", 0, api.ErrSyntax},
		{"1\t1\n", 0, api.ErrSyntax},
		{"1 1\r\n", 0, api.ErrSyntax},
		{"1,1\n", 0, api.ErrSyntax},
		{"01 1\n", 0, api.ErrSyntax},
		{"1 +1\n", 0, api.ErrSyntax},
		{"1 -0\n", 0, api.ErrSyntax},
		{"-0 1\n", 0, api.ErrSyntax},
		{"1 1.0\n", 0, api.ErrSyntax},
		{"1 -\n", 0, api.ErrSyntax},
		{"a 1\n", 0, api.ErrSyntax},
		{"1 1\n1 1000000000000000\n", 1, api.ErrSyntax},
		{"1 1\n1 -1000000000000000\n", 1, api.ErrSyntax},
		{"500001 0\n1\n", 1, api.ErrSyntax}, // the form comes before the numbers
		{"1 999999999999999\n", 0, api.ErrArg},
		{"1 -999999999999999\n", 0, api.ErrArg},
		{"1 1\n500001 0\n", 0, api.ErrArg},
		{"1 1\n0 -500001\n", 0, api.ErrArg},
		{strings.Repeat("0 0\n", api.MaxLong+1), 0, api.ErrLarge},
		{strings.Repeat("0 0\n", api.MaxLong+1) + "0\n", api.MaxLong + 1, api.ErrSyntax},
		{strings.Repeat("0 0\n", api.MaxText/4), 0, api.ErrLarge},
		{strings.Repeat("0 0\n", api.MaxText/4-1) + "0  \n", api.MaxText/4 - 1, api.ErrSyntax},
		{strings.Repeat("0 0\n", api.MaxText/4) + "\n", 0, api.ErrLarge},
		{strings.Repeat("x", api.MaxText), 0, api.ErrSyntax},
		{strings.Repeat("x", api.MaxText+1), 0, api.ErrLarge},
	} {
		is(t, c.text[:min(len(c.text), 60)], three(tour.Read(c.text)), list{[]api.Point{}, c.line, c.want})
	}
	is(t, "as many as there can be", lastTwo(tour.Read(strings.Repeat("0 0\n", api.MaxLong))), list{0, api.OK})
}

func lastTwo[A any](_ A, n int, e api.Errno) list { return list{n, e} }
