package part_test

import (
	"strings"
	"testing"

	"reelfeeder/api"
	"reelfeeder/part"
)

// pairs are of words like "a=5".
func pairs(words string) []api.Pair {
	var l []api.Pair
	for w := range strings.FieldsSeq(words) {
		name, value, _ := strings.Cut(w, "=")
		l = append(l, api.Pair{Name: name, Value: value})
	}
	return l
}

func TestShort(t *testing.T) {
	fork := ways("abcdef", "ac", "ad", "be", "ca", "ef")
	for _, c := range []struct {
		what       string
		c          api.Catalogue
		need, have string
		want       string
	}{
		{"nothing", fork, "", "", ""},
		{"nothing needed", fork, "", "a=1", ""},
		{"nothing there", fork, "a=1 b=0 c=2", "", "a c"},
		{"zero needed", fork, "a=0", "a=0", ""},
		{"just enough", fork, "a=5 b=7", "a=5 b=7", ""},
		{"one too few", fork, "a=5 b=7", "a=4 b=6", "a b"},
		{"from one", fork, "a=5", "a=3 c=2", ""},
		{"from two", fork, "a=5", "a=3 c=1 d=1", ""},
		{"from two, too few", fork, "a=6", "a=3 c=1 d=1", "a"},
		{"not by way of others", fork, "b=2", "b=1 f=5", "b"},
		{"not the other way round", fork, "d=1", "a=9 c=9", "d"},
		{"the part itself first", fork, "a=3 c=3", "a=3 c=3", ""},
		{"alternates in their order", fork, "a=2 c=2 d=1", "c=2 d=1", "c"},
		{"the first alternate before the second", fork, "a=2 c=1", "c=2 d=2", "c"},
		{"the second one is left", fork, "a=2 d=2", "c=2 d=2", ""},
		{"earlier needs first", fork, "a=3 c=3", "a=1 c=4", "c"},
		{"a later one takes what is left", fork, "a=3 c=3", "a=4 c=2", ""},
		{"both", ways("ab", "ab+"), "b=2", "a=1 b=1", ""},
		{"what is missing is taken all the same", fork, "a=9 d=1", "a=1 c=1 d=1", "a d"},
		{"most", fork, "a=1000000 c=1000000", "a=1000000 c=999999", "c"},
		{"more than at the bound", fork, "a=1000000", "c=500000 d=500000", ""},
	} {
		want := strings.Fields(c.want)
		is(t, c.what, three(part.Short(c.c, pairs(c.need), pairs(c.have))), list{want, len(want) == 0, api.OK})
	}
}

func TestShortErrors(t *testing.T) {
	c := ways("abc", "ab")
	many := make([]api.Pair, api.MaxParts+1)
	for _, l := range []struct {
		what string
		l    []api.Pair
		want api.Errno
	}{
		{"too many", many, api.ErrLarge},
		{"so many", many[1:], api.ErrNone},
		{"no such part", pairs("a=1 x=1"), api.ErrNone},
		{"no name", pairs("=1"), api.ErrNone},
		{"no number", pairs("a="), api.ErrSyntax},
		{"word", pairs("a=x"), api.ErrSyntax},
		{"below 0", pairs("a=-1"), api.ErrSyntax},
		{"-0", pairs("a=-0"), api.ErrSyntax},
		{"+1", pairs("a=+1"), api.ErrSyntax},
		{"01", pairs("a=01"), api.ErrSyntax},
		{"00", pairs("a=00"), api.ErrSyntax},
		{"blank", []api.Pair{{Name: "a", Value: " 1"}}, api.ErrSyntax},
		{"too great", pairs("a=1000001"), api.ErrSyntax},
		{"too long", pairs("a=10000000"), api.ErrSyntax},
		{"much too long", []api.Pair{{Name: "a", Value: strings.Repeat("9", 1000)}}, api.ErrSyntax},
		{"twice", pairs("a=1 a=1"), api.ErrOrder},
		{"falling", pairs("b=1 a=1"), api.ErrOrder},
		{"none before syntax", pairs("x=x"), api.ErrNone},
		{"syntax before order", pairs("b=1 a=x"), api.ErrSyntax},
		{"the earlier pair first", pairs("b=1 a=1 x=1"), api.ErrOrder},
	} {
		is(t, l.what, three(part.Short(c, l.l, nil)), list{"[]", false, l.want})
		is(t, l.what, three(part.Short(c, nil, l.l)), list{"[]", false, l.want})
		is(t, l.what+", need first", three(part.Short(c, l.l, pairs("b=x"))), list{"[]", false, l.want})
		is(t, l.what+", have after", three(part.Short(c, pairs("b=x"), l.l)), list{"[]", false, api.ErrSyntax})
	}
	var all []api.Pair
	full := large(api.MaxParts, 0)
	for _, p := range full.Parts {
		all = append(all, api.Pair{Name: p.Key, Value: "1"})
	}
	is(t, "most", three(part.Short(full, all, all)), list{"[]", true, api.OK})
}
