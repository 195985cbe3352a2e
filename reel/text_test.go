package reel_test

import (
	"fmt"
	"math"
	"slices"
	"strings"
	"testing"

	"reelfeeder/api"
	"reelfeeder/reel"
)

func TestText(t *testing.T) {
	early, late := feeds("count a 100000, use f 5 u"), feeds("unload f")
	early[0].At, early[1].At, early[1].Many, late[0].At = 0, -7, -3, api.End
	for _, c := range []struct {
		f    []api.Feed
		want string
	}{
		{nil, ""},
		{feeds("load f a, splice f b, unload f, use f 7 u, count a 5"), "0 load f a\n1 splice f b\n2 unload f\n3 use f 7 u\n4 count a 5\n"},
		{feeds("load load load, use use 1 use, count count 0"), "0 load load load\n1 use use 1 use\n2 count count 0\n"},
		{early, "0 count a 100000\n-7 use f -3 u\n"}, // neither moments nor numbers are validated
		{feeds("use f 0 u"), "0 use f 0 u\n"},
		{late, fmt.Sprintf("%d unload f\n", api.End)},
		{[]api.Feed{{At: 999_999_999_999_999, Kind: api.FeedCount, Reel: long, Many: -999_999_999_999_999}}, "999999999999999 count " + long + " -999999999999999\n"},
		{alike(api.MaxFeeds, feeds("unload f")[0]), strings.Repeat("0 unload f\n", api.MaxFeeds)},
	} {
		is(t, c.want, two(reel.Text(c.f)), list{c.want, api.OK})
		is(t, c.want, three(reel.Read(c.want)), list{c.f, 0, api.OK})
	}
}

// TestTextErrors holds the errors of Text, and their order.
func TestTextErrors(t *testing.T) {
	wrong := func(what string, want api.Errno, f ...api.Feed) {
		t.Helper()
		is(t, what, two(reel.Text(f)), list{"", want})
	}
	good, noName := feeds("load f a")[0], api.Feed{Kind: api.FeedUnload, Feeder: "F"}
	wrong("too many", api.ErrLarge, alike(api.MaxFeeds+1, good)...)
	wrong("too many before their errors", api.ErrLarge, make([]api.Feed, api.MaxFeeds+1)...)
	wrong("much too many", api.ErrLarge, make([]api.Feed, 200_000)...)
	for _, kind := range []int{0, 6, -1, math.MinInt, math.MaxInt} {
		wrong("kind", api.ErrKind, good, all(kind), noName)
	}
	for kind, unused := range map[int][]api.Feed{
		api.FeedLoad:   {{Many: -1}, {Board: "u"}},
		api.FeedSplice: {{Many: 1}, {Board: "U"}},
		api.FeedUnload: {{Reel: "a"}, {Many: 1}, {Board: "u"}},
		api.FeedUse:    {{Reel: "a"}, {Reel: "A"}},
		api.FeedCount:  {{Feeder: "f"}, {Board: "u"}},
	} {
		for _, f := range unused { // with names that are empty: the form comes first
			f.Kind = kind
			wrong("form", api.ErrForm, good, f)
		}
	}
	for _, key := range badKeys {
		for _, f := range []api.Feed{
			{Kind: api.FeedLoad, Feeder: key, Reel: "a"}, {Kind: api.FeedLoad, Feeder: "f", Reel: key},
			{Kind: api.FeedSplice, Feeder: key, Reel: "a"}, {Kind: api.FeedSplice, Feeder: "f", Reel: key},
			{Kind: api.FeedUnload, Feeder: key},
			{Kind: api.FeedUse, Feeder: key, Board: "u"}, {Kind: api.FeedUse, Feeder: "f", Board: key},
			{Kind: api.FeedCount, Reel: key},
		} {
			wrong(fmt.Sprintf("%q", key), api.ErrName, good, f, api.Feed{})
		}
	}
	wrong("names before the next kind", api.ErrName, noName, api.Feed{})
}

// TestLongText holds that a text has at most MaxText bytes.
func TestLongText(t *testing.T) {
	splice := api.Feed{Kind: api.FeedSplice, Feeder: long, Reel: long[1:]} // 90 bytes
	f := alike(api.MaxText/90, splice)
	text, e := reel.Text(f)
	is(t, "short enough", list{len(text), e}, list{199_980, api.OK})
	end := api.Feed{Kind: api.FeedUnload, Feeder: strings.Repeat("k", 10)} // 20 bytes
	f = append(f, end)
	text, e = reel.Text(f)
	is(t, "just short enough", list{len(text), e}, list{api.MaxText, api.OK})
	read, line, e := reel.Read(text)
	is(t, "read", list{slices.Equal(read, f), line, e}, list{true, 0, api.OK})
	f[0].At = 10
	is(t, "one byte more", two(reel.Text(f)), list{"", api.ErrLarge})
	f[len(f)-1].Feeder = "F"
	is(t, "the names first", two(reel.Text(f)), list{"", api.ErrName})
}

func TestReadErrors(t *testing.T) {
	for _, c := range []struct {
		text string
		line int
		want api.Errno
	}{
		{"\n", 0, api.ErrSyntax},
		{"0 load f a\n\n", 1, api.ErrSyntax},
		{"0 load f a\n0 unload f", 1, api.ErrSyntax},
		{"0 unload f", 0, api.ErrSyntax},
		{" 0 unload f\n", 0, api.ErrSyntax},
		{"0 unload f \n", 0, api.ErrSyntax},
		{"0  unload f\n", 0, api.ErrSyntax},
		{"0\tunload f\n", 0, api.ErrSyntax},
		{"0 unload f\r\n", 0, api.ErrSyntax},
		{"0\n", 0, api.ErrSyntax},
		{"unload f\n", 0, api.ErrSyntax},
		{"unload\n", 0, api.ErrSyntax},
		{"0 unload\n", 0, api.ErrSyntax},
		{"0 unload f a\n", 0, api.ErrSyntax},
		{"0 load f\n", 0, api.ErrSyntax},
		{"0 load f a b\n", 0, api.ErrSyntax},
		{"0 splice f\n", 0, api.ErrSyntax},
		{"0 splice f a 1\n", 0, api.ErrSyntax},
		{"0 use f 1\n", 0, api.ErrSyntax},
		{"0 use f u\n", 0, api.ErrSyntax},
		{"0 use f u 1\n", 0, api.ErrSyntax},
		{"0 use f 1 u v\n", 0, api.ErrSyntax},
		{"0 count a\n", 0, api.ErrSyntax},
		{"0 count 1 a\n", 0, api.ErrSyntax},
		{"0 count a 1 u\n", 0, api.ErrSyntax},
		{"0 Load f a\n", 0, api.ErrSyntax},
		{"0 loads f a\n", 0, api.ErrSyntax},
		{"0 1 f a\n", 0, api.ErrSyntax},
		{"a load f a\n", 0, api.ErrSyntax},
		{"00 unload f\n", 0, api.ErrSyntax},
		{"-0 unload f\n", 0, api.ErrSyntax},
		{"+1 unload f\n", 0, api.ErrSyntax},
		{"1.0 unload f\n", 0, api.ErrSyntax},
		{"- unload f\n", 0, api.ErrSyntax},
		{"1000000000000000 unload f\n", 0, api.ErrSyntax},
		{"-1000000000000000 unload f\n", 0, api.ErrSyntax},
		{"0 count a 01\n", 0, api.ErrSyntax},
		{"0 count a -0\n", 0, api.ErrSyntax},
		{"0 count a 1000000000000000\n", 0, api.ErrSyntax},
		{"0 use f x u\n", 0, api.ErrSyntax},
		{"0 load F a\n", 0, api.ErrSyntax}, // names are keys
		{"0 load f A\n", 0, api.ErrSyntax},
		{"0 splice f 7\n", 0, api.ErrSyntax},
		{"0 splice - a\n", 0, api.ErrSyntax},
		{"0 unload 0\n", 0, api.ErrSyntax},
		{"0 use F 1 u\n", 0, api.ErrSyntax},
		{"0 use f 1 U\n", 0, api.ErrSyntax},
		{"0 use f 1 \xff\n", 0, api.ErrSyntax},
		{"0 count A 1\n", 0, api.ErrSyntax},
		{"0 count a\x00 1\n", 0, api.ErrSyntax},
		{"0 unload " + long + "k\n", 0, api.ErrSyntax},
		{"0 unload f\n0 unload f\n0 unload f g\n0 unload\n", 2, api.ErrSyntax},
		{strings.Repeat("0 unload f\n", api.MaxFeeds+1), 0, api.ErrLarge},
		{strings.Repeat("0 unload f\n", api.MaxFeeds+1) + "0 unload\n", api.MaxFeeds + 1, api.ErrSyntax}, // the form first
		{strings.Repeat("0 unload f\n", api.MaxFeeds+1) + "0 unload f", api.MaxFeeds + 1, api.ErrSyntax},
		{strings.Repeat("0 unload f\n", api.MaxText/11+1), 0, api.ErrLarge},
		{strings.Repeat("x", api.MaxText), 0, api.ErrSyntax},
		{strings.Repeat(" ", api.MaxText), 0, api.ErrSyntax},
		{strings.Repeat("\n", api.MaxText), 0, api.ErrSyntax},
		{strings.Repeat("x", api.MaxText+1), 0, api.ErrLarge},
	} {
		is(t, fmt.Sprintf("%.60q", c.text), three(reel.Read(c.text)), list{[]api.Feed{}, c.line, c.want})
	}
}

// TestReadAnything holds that Read validates neither moments nor numbers nor the order.
func TestReadAnything(t *testing.T) {
	f, line, e := reel.Read("9 load f a\n-3 load f a\n0 use f -1 u\n0 count z 999999999999999\n")
	is(t, "read", list{f, line, e}, list{[]api.Feed{
		{At: 9, Kind: api.FeedLoad, Feeder: "f", Reel: "a"}, {At: -3, Kind: api.FeedLoad, Feeder: "f", Reel: "a"},
		{Kind: api.FeedUse, Feeder: "f", Many: -1, Board: "u"}, {Kind: api.FeedCount, Reel: "z", Many: 999_999_999_999_999},
	}, 0, api.OK})
	is(t, "a text with numbers that Read does not take", two(reel.Text([]api.Feed{{At: math.MinInt, Kind: api.FeedUnload, Feeder: "f"}})), list{"-9223372036854775808 unload f\n", api.OK})
}
