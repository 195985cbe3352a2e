package part_test

import (
	"strings"
	"testing"

	"reelfeeder/api"
	"reelfeeder/part"
)

const stockText = "part a p0402 1 0\npart b p0402 2 0\npart c p0603 3 8\npart d p0603 6 720000000\nuse b for a\nboth c for b\nuse d for c\n"

func TestText(t *testing.T) {
	is(t, "text", two(part.Text(stock())), list{stockText, api.OK})
	is(t, "nothing", two(part.Text(api.Catalogue{})), list{"", api.OK})
}

// longest has keys of MaxName bytes.
func longest(parts, alternates int) api.Catalogue {
	c := large(parts, alternates)
	fill := strings.Repeat("x", api.MaxName-len("k00000"))
	for i := range c.Parts {
		c.Parts[i].Key += fill
		c.Parts[i].Package, c.Parts[i].Bake = long, api.MaxBake
	}
	for i := range c.Alternates {
		c.Alternates[i].For += fill
		c.Alternates[i].By += fill
	}
	return c
}

// TestTextBound holds that a text has at most MaxText bytes.
func TestTextBound(t *testing.T) {
	const part1, use1 = len("part   6 720000000\n") + 2*api.MaxName, len("use  for \n") + 2*api.MaxName
	fits := (api.MaxText - api.MaxParts*part1) / use1
	c := longest(api.MaxParts, fits)
	text, e := part.Text(c)
	is(t, "fits", list{len(text), e}, list{api.MaxParts*part1 + fits*use1, api.OK})
	rest := api.MaxText - len(text)
	is(t, "what is left", rest > 0 && rest < use1, true)
	is(t, "too long", two(part.Text(longest(api.MaxParts, fits+1))), list{"", api.ErrLarge})

	// one alternate more that fits exactly, and one byte more than that
	next := longest(api.MaxParts, fits+1).Alternates[fits]
	c.Alternates = append(c.Alternates, next)
	over := use1 - rest
	for i := range over {
		c.Parts[i].Package = long[1:]
	}
	text, e = part.Text(c)
	is(t, "just fits", list{len(text), e}, list{api.MaxText, api.OK})
	is(t, "read", three(part.Read(text)), list{c, 0, api.OK})
	c.Parts[0].Package = long
	is(t, "one byte more", two(part.Text(c)), list{"", api.ErrLarge})
}

func TestReadText(t *testing.T) {
	for _, c := range []api.Catalogue{stock(), {}, ways("a"), ways("abc", "ab", "ba"), ways("abc", "ab+", "ca"), large(api.MaxParts, 0), large(900, api.MaxAlternates), ring()} {
		text, e := part.Text(c)
		is(t, "text", e, api.OK)
		is(t, "read", three(part.Read(text)), list{c, 0, api.OK})
	}
	is(t, "nothing", three(part.Read("")), list{api.Catalogue{}, 0, api.OK})
}

func TestReadErrors(t *testing.T) {
	const a, b, ab = "part a q 1 0\n", "part b q 6 7\n", "use b for a\n"
	for _, c := range []struct {
		text string
		line int
		want api.Errno
	}{
		{"\n", 0, api.ErrSyntax},
		{a + "\n", 1, api.ErrSyntax},
		{a + b + ab[:len(ab)-1], 2, api.ErrSyntax},
		{"part a q 1 0", 0, api.ErrSyntax},
		{"part a q 1 0\r\n", 0, api.ErrSyntax},
		{"part a q 1\n", 0, api.ErrSyntax},
		{"part a q 1 0 0\n", 0, api.ErrSyntax},
		{"part a q 1 \n", 0, api.ErrSyntax},
		{"part a q 1 0 \n", 0, api.ErrSyntax},
		{" part a q 1 0\n", 0, api.ErrSyntax},
		{"part  a q 1 0\n", 0, api.ErrSyntax},
		{"part a  1 0\n", 0, api.ErrSyntax},
		{"Part a q 1 0\n", 0, api.ErrSyntax},
		{"parts a q 1 0\n", 0, api.ErrSyntax},
		{"part a q x 0\n", 0, api.ErrSyntax},
		{"part a q 01 0\n", 0, api.ErrSyntax},
		{"part a q 1 -0\n", 0, api.ErrSyntax},
		{"part a q 1 +1\n", 0, api.ErrSyntax},
		{"part a q 1 1000000000000000\n", 0, api.ErrSyntax},
		{a + b + "use b a\n", 2, api.ErrSyntax},
		{a + b + "use b for a a\n", 2, api.ErrSyntax},
		{a + b + "use b for\n", 2, api.ErrSyntax},
		{a + b + "use b For a\n", 2, api.ErrSyntax},
		{a + b + "use for b a\n", 2, api.ErrSyntax},
		{a + b + "use  b for a\n", 2, api.ErrSyntax},
		{a + b + "use  for a\n", 2, api.ErrSyntax},
		{a + b + "Both b for a\n", 2, api.ErrSyntax},
		{a + b + "one b for a\n", 2, api.ErrSyntax},
		{a + ab + b, 2, api.ErrSyntax},
		{a + b + ab + "part c q 1 0\n" + "x\n", 3, api.ErrSyntax},
		{a + b + "both b for a\n" + "part c q 1 0\n", 3, api.ErrSyntax},
		{"part A q 1 0\nx\n", 1, api.ErrSyntax}, // the form comes before names
		{"part A q 1 0\n", 0, api.ErrName},
		{"part a \xff 1 0\n", 0, api.ErrName},
		{"part a q\t 1 0\n", 0, api.ErrName},
		{"part part part 1 0\n", 0, api.OK},
		{"part a q 0 0\n", 0, api.ErrArg},
		{"part a q 7 0\n", 0, api.ErrArg},
		{"part a q -1 0\n", 0, api.ErrArg},
		{"part a q 1 -1\n", 0, api.ErrArg},
		{"part a q 1 999999999999999\n", 0, api.ErrArg},
		{a + a, 0, api.ErrOrder},
		{b + a, 0, api.ErrOrder},
		{ab, 0, api.ErrNone},
		{a + ab, 0, api.ErrNone},
		{a + b + "use B for a\n", 0, api.ErrNone},
		{a + b + "both a for a\n", 0, api.ErrForm},
		{a + b + ab + ab, 0, api.ErrOrder},
		{a + b + ab + "both a for b\n", 0, api.ErrTwice},
		{strings.Repeat(a, api.MaxParts+1), 0, api.ErrLarge},
		{strings.Repeat(a, api.MaxParts+1) + "x\n", api.MaxParts + 1, api.ErrSyntax},
		{a + strings.Repeat(ab, api.MaxAlternates+1), 0, api.ErrLarge},
		{strings.Repeat("x", api.MaxText), 0, api.ErrSyntax},
		{strings.Repeat("x", api.MaxText+1), 0, api.ErrLarge},
		{strings.Repeat("\n", api.MaxText+1), 0, api.ErrLarge},
		{"part " + strings.Repeat("a", api.MaxText-len("part  q 1 0\n")) + " q 1 0\n", 0, api.ErrName},
	} {
		got, line, e := part.Read(c.text)
		is(t, c.text[:min(len(c.text), 60)], list{line, e}, list{c.line, c.want})
		if e != api.OK {
			is(t, "value", got, api.Catalogue{})
		}
	}
}
