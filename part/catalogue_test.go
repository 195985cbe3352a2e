package part_test

import (
	"fmt"
	"math"
	"strings"
	"testing"

	"reelfeeder/api"
	"reelfeeder/part"
)

type list = []any

// is compares values; a nil list is the same as an empty one.
func is(t *testing.T, what string, got, want any) {
	t.Helper()
	if g, w := fmt.Sprintf("%+v", got), fmt.Sprintf("%+v", want); g != w {
		t.Errorf("%s: got %.300s, want %.300s", what, g, w)
	}
}

// two and three are the results of a call as a list.
func two[A any](a A, e api.Errno) list { return list{a, e} }

func three[A, B any](a A, b B, e api.Errno) list { return list{a, b, e} }

var long = strings.Repeat("k", api.MaxName)

// stock is a catalogue of four parts: b replaces a, c and b replace each other, and d replaces c.
func stock() api.Catalogue {
	return api.Catalogue{
		Parts: []api.Part{
			{Key: "a", Package: "p0402", Level: 1}, {Key: "b", Package: "p0402", Level: 2},
			{Key: "c", Package: "p0603", Level: 3, Bake: 8}, {Key: "d", Package: "p0603", Level: 6, Bake: api.MaxBake},
		},
		Alternates: []api.Alternate{{For: "a", By: "b"}, {For: "b", By: "c", Both: true}, {For: "c", By: "d"}},
	}
}

// ways is a catalogue of parts with keys of one letter, and alternates: "ab" is that b replaces a, "ab+" that both do.
func ways(parts string, alternates ...string) api.Catalogue {
	var c api.Catalogue
	for _, p := range parts {
		c.Parts = append(c.Parts, api.Part{Key: string(p), Package: "q", Level: 1})
	}
	for _, a := range alternates {
		c.Alternates = append(c.Alternates, api.Alternate{For: a[:1], By: a[1:2], Both: len(a) > 2})
	}
	return c
}

// large is a catalogue with so many parts and so many alternates between them.
func large(parts, alternates int) api.Catalogue {
	var c api.Catalogue
	for i := range parts {
		c.Parts = append(c.Parts, api.Part{Key: fmt.Sprintf("k%05d", i), Package: "q", Level: 1})
	}
	for i := 0; i < parts && len(c.Alternates) < alternates; i++ {
		for j := 0; j < min(parts, 4) && len(c.Alternates) < alternates; j++ {
			if i != j {
				c.Alternates = append(c.Alternates, api.Alternate{For: c.Parts[i].Key, By: c.Parts[j].Key})
			}
		}
	}
	return c
}

func TestCheckParts(t *testing.T) {
	for _, c := range []struct {
		what   string
		change func(c *api.Catalogue)
		want   api.Errno
	}{
		{"as it is", func(c *api.Catalogue) {}, api.OK},
		{"no alternates", func(c *api.Catalogue) { c.Alternates = nil }, api.OK},
		{"nothing", func(c *api.Catalogue) { *c = api.Catalogue{} }, api.OK},
		{"most parts", func(c *api.Catalogue) { *c = large(api.MaxParts, 0) }, api.OK},
		{"too many parts", func(c *api.Catalogue) { *c = large(api.MaxParts+1, 0) }, api.ErrLarge},
		{"many before their errors", func(c *api.Catalogue) { *c = large(api.MaxParts+1, 0); c.Parts[0].Key = "" }, api.ErrLarge},
		{"no key", func(c *api.Catalogue) { c.Parts[0].Key = "" }, api.ErrName},
		{"bad key", func(c *api.Catalogue) { c.Parts[3].Key = "D" }, api.ErrName},
		{"long key", func(c *api.Catalogue) { c.Parts[3].Key, c.Alternates = long, nil }, api.OK},
		{"key too long", func(c *api.Catalogue) { c.Parts[3].Key = long + "k" }, api.ErrName},
		{"no package", func(c *api.Catalogue) { c.Parts[1].Package = "" }, api.ErrName},
		{"bad package", func(c *api.Catalogue) { c.Parts[1].Package = "0402" }, api.ErrName},
		{"long package", func(c *api.Catalogue) { c.Parts[1].Package = long }, api.OK},
		{"package too long", func(c *api.Catalogue) { c.Parts[1].Package = long + "k" }, api.ErrName},
		{"level 0", func(c *api.Catalogue) { c.Parts[0].Level = 0 }, api.ErrArg},
		{"level 6", func(c *api.Catalogue) { c.Parts[0].Level = 6 }, api.OK},
		{"level 7", func(c *api.Catalogue) { c.Parts[0].Level = 7 }, api.ErrArg},
		{"least level", func(c *api.Catalogue) { c.Parts[0].Level = math.MinInt }, api.ErrArg},
		{"bake below 0", func(c *api.Catalogue) { c.Parts[0].Bake = -1 }, api.ErrArg},
		{"longest bake", func(c *api.Catalogue) { c.Parts[0].Bake = api.MaxBake }, api.OK},
		{"bake too long", func(c *api.Catalogue) { c.Parts[0].Bake = api.MaxBake + 1 }, api.ErrArg},
		{"greatest bake", func(c *api.Catalogue) { c.Parts[0].Bake = math.MaxInt }, api.ErrArg},
		{"the same key", func(c *api.Catalogue) { c.Parts[1].Key = "a" }, api.ErrOrder},
		{"keys falling", func(c *api.Catalogue) { c.Parts[3].Key = "bb" }, api.ErrOrder},
		{"keys compared by bytes", func(c *api.Catalogue) { c.Parts[0].Key, c.Parts[1].Key, c.Alternates = "a10", "a9", nil }, api.OK},
		{"name before number", func(c *api.Catalogue) { c.Parts[1].Package, c.Parts[1].Level = "", 0 }, api.ErrName},
		{"number before order", func(c *api.Catalogue) { c.Parts[1].Key, c.Parts[1].Bake = "a", -1 }, api.ErrArg},
		{"the earlier part first", func(c *api.Catalogue) { c.Parts[1].Key, c.Parts[2].Key = "a", "" }, api.ErrOrder},
		{"parts before alternates", func(c *api.Catalogue) { c.Parts[3].Key, c.Alternates[0].By = "a", "x" }, api.ErrOrder},
		{"parts before many alternates", func(c *api.Catalogue) { *c = large(api.MaxParts, api.MaxAlternates+1); c.Parts[9].Level = 0 }, api.ErrArg},
	} {
		l := stock()
		c.change(&l)
		is(t, c.what, part.CheckCatalogue(l), c.want)
	}
}

func TestCheckAlternates(t *testing.T) {
	many := large(api.MaxParts, api.MaxAlternates+1)
	many.Alternates[0].For = "x"
	for _, c := range []struct {
		what string
		c    api.Catalogue
		want api.Errno
	}{
		{"most", large(api.MaxParts, api.MaxAlternates), api.OK},
		{"too many", many, api.ErrLarge},
		{"no parts", ways("", "ab"), api.ErrNone},
		{"no part for", ways("abc", "ab", "xb"), api.ErrNone},
		{"no part by", ways("abc", "ab", "ax"), api.ErrNone},
		{"the same part", ways("abc", "ab", "bb"), api.ErrForm},
		{"the same part that there is not", ways("abc", "xx"), api.ErrNone},
		{"the same alternate", ways("abc", "ab", "ab"), api.ErrOrder},
		{"the same alternate with both", ways("abc", "ab", "ab+"), api.ErrOrder},
		{"by falling", ways("abc", "ac", "ab"), api.ErrOrder},
		{"for falling", ways("abc", "ba", "ab"), api.ErrOrder},
		{"for falling, by rising", ways("abc", "ba", "ac"), api.ErrOrder},
		{"for rising, by falling", ways("abc", "ac", "ba"), api.OK},
		{"none before order", ways("abc", "ba", "ax"), api.ErrNone},
		{"form before order", ways("abc", "ba", "aa"), api.ErrForm},
		{"the earlier alternate first", ways("abc", "ba", "ab", "xx"), api.ErrOrder},
		{"one way each", ways("abc", "ab", "ba"), api.OK},
		{"both and one", ways("abc", "ab+", "ba"), api.ErrTwice},
		{"one and both", ways("abc", "ab", "ba+"), api.ErrTwice},
		{"both and both", ways("abc", "ab+", "ba+"), api.ErrTwice},
		{"apart from each other", ways("abcd", "ac", "bc+", "bd", "ca", "cb"), api.ErrTwice},
		{"other pairs", ways("abcd", "ab+", "bc+", "ca+"), api.OK},
		{"twice after all", ways("abc", "ab+", "ba", "bx"), api.ErrNone},
	} {
		is(t, c.what, part.CheckCatalogue(c.c), c.want)
	}
}

// TestFirstErrors holds that each function returns the errors of catalogues, of parts and of stays first, and no values
// with them (Z3).
func TestFirstErrors(t *testing.T) {
	bad := ways("abc", "ab", "ab")
	wrong := []api.Pair{{Name: "x", Value: "x"}}
	for what, got := range map[string]list{
		"Direct": two(part.Direct(bad, "x")),
		"All":    two(part.All(bad, "x")),
		"Groups": two(part.Groups(bad)),
		"Odd":    two(part.Odd(bad)),
	} {
		is(t, what, got, list{"[]", api.ErrOrder})
	}
	is(t, "Chain", three(part.Chain(bad, "x", "x")), list{"[]", false, api.ErrOrder})
	is(t, "Short", three(part.Short(bad, wrong, wrong)), list{"[]", false, api.ErrOrder})
	is(t, "Text", two(part.Text(bad)), list{"", api.ErrOrder})

	over := api.Window{From: 1, To: 0}
	for _, c := range []struct {
		p    api.Part
		l    []api.Stay
		want api.Errno
	}{
		{api.Part{Key: "P", Package: "q", Level: 7}, nil, api.ErrName},
		{api.Part{Key: "p", Package: "", Level: 7}, nil, api.ErrName},
		{api.Part{Key: "p", Package: "q", Level: 7}, nil, api.ErrArg},
		{api.Part{Key: "p", Package: "q", Level: 6, Bake: -1}, []api.Stay{{}}, api.ErrArg},
		{api.Part{Key: "p", Package: "q", Level: 6}, nil, api.ErrNone},
		{api.Part{Key: "p", Package: "q", Level: 1}, nil, api.ErrNone},
		{api.Part{Key: "p", Package: "q", Level: 1}, []api.Stay{{}}, api.ErrKind},
		{api.Part{Key: "p", Package: "q", Level: 1}, stays("f5ms b5ms"), api.ErrOrder},
	} {
		is(t, "Exposed", two(part.Exposed(c.p, c.l, -1)), list{0, c.want})
		is(t, "Left", three(part.Left(c.p, c.l, -1)), list{0, false, c.want})
		is(t, "Usable", two(part.Usable(c.p, c.l, over)), list{false, c.want})
		is(t, "Expires", three(part.Expires(c.p, c.l)), list{0, false, c.want})
	}
}

func TestOdd(t *testing.T) {
	is(t, "odd", two(part.Odd(stock())), list{"[{Name:b Value:c}]", api.OK})
	c := ways("abcd", "ad", "ba", "bc+", "cd+", "da")
	is(t, "none", two(part.Odd(c)), list{"[]", api.OK})
	c.Parts[1].Package, c.Parts[3].Package = "r", "r"
	is(t, "in order, and once with both", two(part.Odd(c)), list{"[{Name:a Value:d} {Name:b Value:a} {Name:b Value:c} {Name:c Value:d} {Name:d Value:a}]", api.OK})
	is(t, "nothing", two(part.Odd(api.Catalogue{})), list{"[]", api.OK})
}
