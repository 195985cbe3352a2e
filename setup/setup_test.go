package setup_test

import (
	"fmt"
	"math"
	"slices"
	"strings"
	"testing"

	"reelfeeder/api"
	"reelfeeder/setup"
)

type list = []any

// is compares values; a nil list is the same as an empty one.
func is(t *testing.T, what string, got, want any) {
	t.Helper()
	if g, w := fmt.Sprintf("%q", got), fmt.Sprintf("%q", want); g != w {
		t.Errorf("%s: got %.300s, want %.300s", what, g, w)
	}
}

// two and three are the results of a call as a list.
func two[A any](a A, e api.Errno) list { return list{a, e} }

func three[A, B any](a A, b B, e api.Errno) list { return list{a, b, e} }

var long = strings.Repeat("k", api.MaxName)

// slots is a setup of words: "a - b" has no feeder in the middle.
func slots(words string) []string {
	s := strings.Fields(words)
	for i := range s {
		if s[i] == "-" {
			s[i] = ""
		}
	}
	return s
}

// products are the parts of products: "a b|c|" are two products with parts, and one without.
func products(words string) [][]string {
	var p [][]string
	for _, parts := range strings.Split(words, "|") {
		p = append(p, strings.Fields(parts))
	}
	return p
}

// names are so many rising keys.
func names(start string, many int) []string {
	var l []string
	for i := range many {
		l = append(l, fmt.Sprintf("%s%03d", start, i))
	}
	return l
}

// TestCheckSetup holds P3.1: what a setup is.
func TestCheckSetup(t *testing.T) {
	full := names("k", api.MaxSetup)
	for _, c := range []struct {
		what string
		s    []string
		want api.Errno
	}{
		{"one", slots("a"), api.OK},
		{"one slot without a feeder", slots("-"), api.OK},
		{"no feeders", make([]string, api.MaxSetup), api.OK},
		{"falling", slots("c b a"), api.OK},
		{"the longest key", []string{long}, api.OK},
		{"as many as there can be", full, api.OK},
		{"nil", nil, api.ErrNone},
		{"empty", []string{}, api.ErrNone},
		{"too many", make([]string, api.MaxSetup+1), api.ErrLarge},
		{"too many before bad names", append(slices.Clone(full), "A"), api.ErrLarge},
		{"no key", slots("a B"), api.ErrName},
		{"blank", []string{" "}, api.ErrName},
		{"minus", []string{"-"}, api.ErrName},
		{"too long", []string{long + "k"}, api.ErrName},
		{"no UTF-8", []string{"a\xff"}, api.ErrName},
		{"the last one", append(names("k", api.MaxSetup-1), "0"), api.ErrName},
		{"twice", slots("a a"), api.ErrTwice},
		{"twice, apart", slots("a - b - a"), api.ErrTwice},
		{"no key twice", slots("A A"), api.ErrName},
		{"twice before no key", slots("a a B"), api.ErrTwice},
		{"no key before twice", slots("a B a"), api.ErrName},
	} {
		is(t, c.what, setup.CheckSetup(c.s), c.want)
	}
}

// TestCheckParts holds P3.1: what the parts of products are.
func TestCheckParts(t *testing.T) {
	many := make([][]string, api.MaxSequence)
	for _, c := range []struct {
		what  string
		slots int
		p     [][]string
		want  api.Errno
	}{
		{"nothing", 1, nil, api.OK},
		{"no slots", 0, nil, api.ErrArg},
		{"below 0", -1, nil, api.ErrArg},
		{"least", math.MinInt, nil, api.ErrArg},
		{"most slots", api.MaxSetup, nil, api.OK},
		{"too many slots", api.MaxSetup + 1, nil, api.ErrArg},
		{"greatest", math.MaxInt, nil, api.ErrArg},
		{"slots first", 0, append(many, nil), api.ErrArg},
		{"without parts", 1, products("|a|"), api.OK},
		{"as many products as there can be", 1, many, api.OK},
		{"too many products", 1, append(many, nil), api.ErrLarge},
		{"too many products before bad ones", 1, append(products("A|b a"), many...), api.ErrLarge},
		{"full", 2, products("a b|c d"), api.OK},
		{"too full", 2, products("a b|c d e"), api.ErrFull},
		{"too full at the greatest", api.MaxSetup, [][]string{names("k", api.MaxSetup+1)}, api.ErrFull},
		{"full at the greatest", api.MaxSetup, [][]string{names("k", api.MaxSetup)}, api.OK},
		{"too full before no key", 1, products("A B"), api.ErrFull},
		{"no key in an earlier product", 1, products("A|b c"), api.ErrName},
		{"no key", 3, products("a b|c D"), api.ErrName},
		{"empty", 3, [][]string{{""}}, api.ErrName},
		{"the same", 3, products("a a"), api.ErrOrder},
		{"falling", 3, products("b a"), api.ErrOrder},
		{"falling at the end", 3, products("a c b"), api.ErrOrder},
		{"no key that is falling", 3, products("a A"), api.ErrName},
		{"falling before no key", 3, products("b a C"), api.ErrOrder},
		{"the same in several products", 2, products("a b|a b|b"), api.OK},
		{"falling from product to product", 2, products("b|a"), api.OK},
	} {
		is(t, c.what, setup.CheckParts(c.slots, c.p), c.want)
	}
}

func TestMissing(t *testing.T) {
	for _, c := range []struct{ s, parts, want string }{
		{"a -", "a b", "b"},
		{"a b", "a b", ""},
		{"c a b", "", ""},
		{"- - -", "a b c", "a b c"},
		{"d c x", "a c d", "a"},
		{"x - y", "a z", "a z"},
	} {
		is(t, c.s+" for "+c.parts, two(setup.Missing(slots(c.s), strings.Fields(c.parts))), list{strings.Fields(c.want), api.OK})
	}
}

func TestChanges(t *testing.T) {
	for _, c := range []struct {
		a, b  string
		want  []api.Change
		loads int
	}{
		{"a", "a", nil, 0},
		{"- -", "- -", nil, 0},
		{"a b -", "c b d", []api.Change{{Slot: 0, Out: "a", In: "c"}, {Slot: 2, In: "d"}}, 2},
		{"a b", "- c", []api.Change{{Slot: 0, Out: "a"}, {Slot: 1, Out: "b", In: "c"}}, 1},
		{"a b", "- -", []api.Change{{Slot: 0, Out: "a"}, {Slot: 1, Out: "b"}}, 0},
		{"a b", "b a", []api.Change{{Slot: 0, Out: "a", In: "b"}, {Slot: 1, Out: "b", In: "a"}}, 2},
		{"- a", "a -", []api.Change{{Slot: 0, In: "a"}, {Slot: 1, Out: "a"}}, 1},
	} {
		what := c.a + " to " + c.b
		is(t, what, two(setup.Changes(slots(c.a), slots(c.b))), list{c.want, api.OK})
		is(t, what, two(setup.Loads(slots(c.a), slots(c.b))), list{c.loads, api.OK})
	}
	empty, full := make([]string, api.MaxSetup), names("k", api.MaxSetup)
	is(t, "most loads", two(setup.Loads(empty, full)), list{api.MaxSetup, api.OK})
}

func TestChangesErrors(t *testing.T) {
	for _, c := range []struct {
		a, b []string
		want api.Errno
	}{
		{nil, nil, api.ErrNone},
		{slots("a"), nil, api.ErrNone},
		{slots("A"), nil, api.ErrName},
		{slots("a a"), slots("A"), api.ErrTwice},
		{slots("a"), slots("b b"), api.ErrTwice},
		{slots("a"), make([]string, api.MaxSetup+1), api.ErrLarge},
		{slots("a"), slots("a b"), api.ErrForm},
		{slots("a -"), slots("a"), api.ErrForm},
	} {
		what := fmt.Sprint(c.a, c.b)
		is(t, what, two(setup.Changes(c.a, c.b)), list{[]api.Change{}, c.want})
		is(t, what, two(setup.Loads(c.a, c.b)), list{0, c.want})
	}
}

// TestErrors holds P3.1 for all functions with a setup and parts: errors of the setup come first, then those of the
// parts for as many slots.
func TestErrors(t *testing.T) {
	tooMany := make([][]string, api.MaxSequence+1)
	for _, c := range []struct {
		what string
		s    []string
		p    [][]string
		want api.Errno
	}{
		{"no slots", nil, products("a"), api.ErrNone},
		{"no slots before bad parts", nil, products("A"), api.ErrNone},
		{"too many slots", make([]string, api.MaxSetup+1), products("A"), api.ErrLarge},
		{"a bad slot before bad parts", slots("a A"), products("a b c"), api.ErrName},
		{"twice before bad parts", slots("a a"), products("A"), api.ErrTwice},
		{"more parts than slots", slots("a -"), products("a b c"), api.ErrFull},
		{"no key", slots("a -"), products("a B"), api.ErrName},
		{"falling", slots("a -"), products("b a"), api.ErrOrder},
		{"a bad later product", slots("a -"), products("a|b B"), api.ErrName},
		{"a bad product before a later one", slots("a -"), products("b a|a b c"), api.ErrOrder},
		{"too many products", slots("a -"), tooMany, api.ErrLarge},
	} {
		is(t, "setups, "+c.what, two(setup.Setups(c.s, c.p)), list{[][]string{}, c.want})
		is(t, "total, "+c.what, two(setup.Total(c.s, c.p)), list{0, c.want})
		is(t, "best, "+c.what, three(setup.Best(c.s, c.p)), list{[]int{}, 0, c.want})
		is(t, "nearest, "+c.what, three(setup.Nearest(c.s, c.p)), list{[]int{}, 0, c.want})
		is(t, "next, "+c.what, two(setup.Next(c.s, c.p[0], c.p[1:])), list{[]string{}, c.want})
		if len(c.p) == 1 {
			is(t, "missing, "+c.what, two(setup.Missing(c.s, c.p[0])), list{[]string{}, c.want})
		}
	}
}
