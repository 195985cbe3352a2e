package setup_test

import (
	"fmt"
	"math/rand"
	"slices"
	"testing"

	"reelfeeder/api"
	"reelfeeder/setup"
)

func TestGroups(t *testing.T) {
	for _, c := range []struct {
		what  string
		slots int
		p     string
		want  [][]int
	}{
		{"two", 3, "a b|c d|b e|d", [][]int{{0, 2}, {1, 3}}},
		{"one", 4, "a b|c d|a c|", [][]int{{0, 1, 2, 3}}},
		{"just too many parts", 3, "a b|c d", [][]int{{0}, {1}}},
		{"alone", 1, "a|b|c", [][]int{{0}, {1}, {2}}},
		{"the same", 1, "a|b|a|b", [][]int{{0, 2}, {1, 3}}},
		{"without parts, in the first group", 1, "a|b||", [][]int{{0, 2, 3}, {1}}},
		{"without parts at first", 1, "|a|b", [][]int{{0, 1}, {2}}},
		{"the least numbers", 2, "a|b|c", [][]int{{0, 1}, {2}}},
		{"the least numbers of the fewest groups", 3, "a|b|c d|a e", [][]int{{0, 1, 3}, {2}}},
		{"fewest groups before the least numbers", 3, "a|b|a c d|b e f", [][]int{{0, 2}, {1, 3}}},
		{"one product", 2, "a b", [][]int{{0}}},
	} {
		is(t, c.what, two(setup.Groups(c.slots, products(c.p))), list{c.want, api.OK})
	}
	is(t, "no products", two(setup.Groups(1, nil)), list{[][]int{}, api.OK})
}

func TestGroupsErrors(t *testing.T) {
	many := make([][]string, api.MaxGrouped+1)
	for i := range many {
		many[i] = []string{fmt.Sprintf("k%02d", i)}
	}
	bad := append(slices.Clone(many), []string{"A"})
	for _, c := range []struct {
		what  string
		slots int
		p     [][]string
		want  api.Errno
	}{
		{"no slots", 0, nil, api.ErrArg},
		{"too many slots", api.MaxSetup + 1, products("A"), api.ErrArg},
		{"more products than there can be", 1, make([][]string, api.MaxSequence+1), api.ErrLarge},
		{"more parts than slots", 1, products("a b"), api.ErrFull},
		{"no key", 1, products("A"), api.ErrName},
		{"falling", 2, products("b a"), api.ErrOrder},
		{"too many products", 1, many, api.ErrLarge},
		{"names before too many products", 1, bad, api.ErrName},
	} {
		is(t, c.what, two(setup.Groups(c.slots, c.p)), list{[][]int{}, c.want})
	}
	groups, e := setup.Groups(1, many[:api.MaxGrouped])
	is(t, "so many", list{len(groups), e}, list{api.MaxGrouped, api.OK})
}

// union are the parts of some products.
func union(p [][]string, of []int) map[string]bool {
	parts := map[string]bool{}
	for _, i := range of {
		for _, part := range p[i] {
			parts[part] = true
		}
	}
	return parts
}

// eachDivision tells all divisions, rising by the numbers of groups.
func eachDivision(many, product int, groups [][]int, tell func([][]int)) {
	if product == many {
		tell(groups)
		return
	}
	for g := range len(groups) + 1 {
		next := append(slices.Clone(groups), nil)
		next[g] = append(slices.Clone(next[g]), product)
		if g < len(groups) {
			next = next[:len(groups)]
		}
		eachDivision(many, product+1, next, tell)
	}
}

// TestEveryDivision holds Groups against all divisions.
func TestEveryDivision(t *testing.T) {
	r := rand.New(rand.NewSource(11))
	for range 400 {
		many, slots := r.Intn(7), 1+r.Intn(8)
		var p [][]string
		for range many {
			p = append(p, anyParts(r, slots, 12))
		}
		var fewest [][]int
		found := false
		eachDivision(many, 0, nil, func(groups [][]int) {
			fit := !slices.ContainsFunc(groups, func(g []int) bool { return len(union(p, g)) > slots })
			if fit && (!found || len(groups) < len(fewest)) {
				fewest, found = groups, true
			}
		})
		is(t, fmt.Sprint("groups of ", slots, p), two(setup.Groups(slots, p)), list{fewest, api.OK})
	}
}

// TestLargestGroups holds that the most products with the most parts are divided soon.
func TestLargestGroups(t *testing.T) {
	var p [][]string
	for i := range api.MaxGrouped {
		p = append(p, names(fmt.Sprintf("k%d-", i), 34))
	}
	groups, e := setup.Groups(api.MaxSetup, p)
	is(t, "pairs", list{groups, e}, list{[][]int{{0, 1}, {2, 3}, {4, 5}, {6, 7}, {8, 9}}, api.OK})
	for i := range p {
		p[i] = names(fmt.Sprintf("k%d-", i), api.MaxSetup)
	}
	groups, e = setup.Groups(api.MaxSetup, p)
	is(t, "alone", list{len(groups), e}, list{api.MaxGrouped, api.OK})
}

func TestAlways(t *testing.T) {
	for _, c := range []struct{ what, p, want string }{
		{"one part", "a b|b c", "b"},
		{"rising", "a b c d|b c d|a c d", "c d"},
		{"one product", "a b c", "a b c"},
		{"no part", "a b|c d", ""},
		{"a product without parts", "a||a", ""},
		{"not in the last one", "a b|a b|b", "b"},
		{"not in the first one", "b|a b|a b", "b"},
	} {
		is(t, c.what, two(setup.Always(products(c.p))), list{products(c.want)[0], api.OK})
	}
	is(t, "no products", two(setup.Always(nil)), list{[]string{}, api.OK})
	full := names("k", api.MaxSetup)
	is(t, "most parts", two(setup.Always(slices.Repeat([][]string{full}, api.MaxSequence))), list{full, api.OK})
}

func TestAlwaysErrors(t *testing.T) {
	for _, c := range []struct {
		what string
		p    [][]string
		want api.Errno
	}{
		{"too many products", make([][]string, api.MaxSequence+1), api.ErrLarge},
		{"more parts than MaxSetup slots", [][]string{names("k", api.MaxSetup+1)}, api.ErrFull},
		{"no key", products("a|A"), api.ErrName},
		{"falling", products("|b a"), api.ErrOrder},
	} {
		is(t, c.what, two(setup.Always(c.p)), list{[]string{}, c.want})
	}
}
