package setup_test

import (
	"fmt"
	"math/rand"
	"slices"
	"strings"
	"testing"

	"reelfeeder/api"
	"reelfeeder/setup"
)

func TestNext(t *testing.T) {
	for _, c := range []struct{ what, s, parts, later, want string }{
		{"nothing needed", "a - b", "", "c", "a - b"},
		{"all there", "c a b", "a b c", "", "c a b"},
		{"the first empty slot", "a - -", "b", "", "a b -"},
		{"empty slots in order", "- a -", "b c", "", "b a c"},
		{"parts stay where they are", "b - a", "a b c", "", "b c a"},
		{"empty slots before others", "x - y", "a", "y|x", "x a y"},
		{"then others", "x - y", "a b", "y|x", "b a y"},
		{"needed latest", "a b", "c", "b|a", "c b"},
		{"needed latest, the other way round", "a b", "c", "a|b", "a c"},
		{"needed latest, by the first need", "a b", "c", "a|b|b|a", "a c"},
		{"needed by none", "a b d", "c", "b|d", "c b d"},
		{"needed by none before the greatest", "a b d", "c", "b d|", "c b d"},
		{"the greatest of those needed by none", "a d b", "c", "", "a c b"},
		{"the greatest of those needed at once", "a d b", "c", "x|a b d", "a c b"},
		{"greatest by bytes", "a-1 a1 a_1 a", "c", "", "a-1 a1 c a"},
		{"the second greatest then", "a d b", "c e", "", "a c e"},
		{"not what the product needs", "z b", "c z", "b", "z c"},
		{"by need, then by name", "a b c d", "x y z", "|a c|b d", "a y z x"},
		{"by name only if needed alike", "a b c d", "x y z", "d|c|b|a", "x y z d"},
		{"missing parts in order", "p q r", "a b c", "", "c b a"},
		{"one slot", "a", "b", "a", "b"},
		{"all others", "a - b", "c d e", "", "e c d"},
	} {
		var later [][]string
		if c.later != "" {
			later = products(c.later)
		}
		is(t, c.what, two(setup.Next(slots(c.s), strings.Fields(c.parts), later)), list{slots(c.want), api.OK})
	}
}

// TestNextBound holds that the product and those after it are together at most MaxSequence.
func TestNextBound(t *testing.T) {
	later := make([][]string, api.MaxSequence)
	later[api.MaxSequence-2] = []string{"b"}
	is(t, "as many as there can be", two(setup.Next(slots("a b"), []string{"c"}, later[:api.MaxSequence-1])), list{slots("c b"), api.OK})
	is(t, "one more", two(setup.Next(slots("a b"), []string{"c"}, later)), list{[]string{}, api.ErrLarge})
}

func TestSetups(t *testing.T) {
	for _, c := range []struct {
		what, s, p, want string
		total            int
	}{
		{"the example", "- -", "a b|c|a b", "a b|a c|a b", 4},
		{"nothing to do", "a b", "a|b||a b", "a b|a b|a b|a b", 0},
		{"what is needed next stays", "a b", "c|b|a", "c b|c b|a b", 2},
		{"what is needed stays beyond products", "- - -", "a b|c d|a|b", "a b -|a d c|a d c|a b c", 5},
		{"one slot", "-", "a|b|a", "a|b|a", 3},
		{"nothing is taken out without need", "x y z", "|a|", "x y z|x y a|x y a", 1},
	} {
		want := products(c.want)
		for i := range want {
			want[i] = slots(strings.Join(want[i], " "))
		}
		is(t, c.what, two(setup.Setups(slots(c.s), products(c.p))), list{want, api.OK})
		is(t, c.what, two(setup.Total(slots(c.s), products(c.p))), list{c.total, api.OK})
	}
	is(t, "no products", two(setup.Setups(slots("a"), nil)), list{[][]string{}, api.OK})
	is(t, "no products", two(setup.Total(slots("a"), nil)), list{0, api.OK})
}

// anyParts are the parts of a product: so many at most, of the first letters.
func anyParts(r *rand.Rand, most, letters int) []string {
	var parts []string
	for _, i := range r.Perm(letters)[:r.Intn(min(most, letters)+1)] {
		parts = append(parts, string(rune('a'+i)))
	}
	slices.Sort(parts)
	return parts
}

// anyCase is a setup with some slots, and the parts of so many products.
func anyCase(r *rand.Rand, most, letters, many int) ([]string, [][]string) {
	s := make([]string, 1+r.Intn(most))
	for i, k := range r.Perm(letters)[:min(len(s), letters)] {
		if r.Intn(3) > 0 {
			s[i] = string(rune('a' + k))
		}
	}
	var p [][]string
	for range many {
		p = append(p, anyParts(r, len(s), letters))
	}
	return s, p
}

// nextInSteps does what P3.2 says, one missing part after the other.
func nextInSteps(s, parts []string, later [][]string) []string {
	s = slices.Clone(s)
	for _, part := range parts {
		if slices.Contains(s, part) {
			continue
		}
		into := slices.Index(s, "")
		latest := -1
		for slot, out := range s {
			if slices.Contains(s, "") || slices.Contains(parts, out) {
				continue
			}
			need := 0
			for need < len(later) && !slices.Contains(later[need], out) {
				need++
			}
			if need > latest || need == latest && out > s[into] {
				into, latest = slot, need
			}
		}
		s[into] = part
	}
	return s
}

// fewest are the fewest loads for products, of all ways of choosing what is taken out. Which slot has a part does not count.
func fewest(s []string, p [][]string, known map[string]int) int {
	if len(p) == 0 {
		return 0
	}
	s = slices.Clone(s)
	slices.Sort(s)
	key := fmt.Sprint(len(p), s)
	if n, is := known[key]; is {
		return n
	}
	var missing []string
	for _, part := range p[0] {
		if !slices.Contains(s, part) {
			missing = append(missing, part)
		}
	}
	least := 1 << 30
	if len(missing) == 0 {
		least = fewest(s, p[1:], known)
	} else {
		for slot, out := range s {
			if !slices.Contains(p[0], out) {
				made := slices.Clone(s)
				made[slot] = missing[0]
				least = min(least, 1+fewest(made, p, known))
			}
		}
	}
	known[key] = least
	return least
}

// TestEveryChoice holds Next, Setups and Total against P3.2 in steps, and that no other choice needs fewer loads.
func TestEveryChoice(t *testing.T) {
	r := rand.New(rand.NewSource(6))
	for range 3000 {
		s, p := anyCase(r, 5, 1+r.Intn(8), r.Intn(8))
		var want [][]string
		loads, here := 0, s
		for i, parts := range p {
			missing, e := setup.Missing(here, parts)
			is(t, "missing", e, api.OK)
			loads += len(missing)
			is(t, "next", two(setup.Next(here, parts, p[i+1:])), list{nextInSteps(here, parts, p[i+1:]), api.OK})
			here = nextInSteps(here, parts, p[i+1:])
			want = append(want, here)
		}
		is(t, "setups", two(setup.Setups(s, p)), list{want, api.OK})
		is(t, "total", two(setup.Total(s, p)), list{loads, api.OK})
		is(t, "fewest", loads, fewest(s, p, map[string]int{}))
	}
}

// TestEnoughSlots holds that with all parts of all products in the slots nothing is loaded any more.
func TestEnoughSlots(t *testing.T) {
	r := rand.New(rand.NewSource(7))
	for range 300 {
		var p [][]string
		for range 1 + r.Intn(8) {
			p = append(p, anyParts(r, 8, 8))
		}
		s := slots("- h g f e d c b a")
		is(t, "total", two(setup.Total(s, p)), list{0, api.OK})
		made, e := setup.Setups(s, p)
		is(t, "setups", list{made[len(p)-1], e}, list{s, api.OK})
	}
}

// TestLargestSequence holds that as many products as there can be, with as many parts, are done soon.
func TestLargestSequence(t *testing.T) {
	var p [][]string
	for i := range api.MaxSequence {
		p = append(p, names(fmt.Sprintf("k%03d-", i), api.MaxSetup))
	}
	s := names("x", api.MaxSetup)
	is(t, "total", two(setup.Total(s, p)), list{api.MaxSequence * api.MaxSetup, api.OK})
	_, loads, e := setup.Nearest(s, p)
	is(t, "nearest", list{loads, e}, list{api.MaxSequence * api.MaxSetup, api.OK})
}
