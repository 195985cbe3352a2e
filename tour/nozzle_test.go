package tour_test

import (
	"fmt"
	"math"
	"math/rand"
	"slices"
	"strings"
	"testing"

	"reelfeeder/api"
	"reelfeeder/tour"
)

// kinds are those of words: "a b|c" are two lists.
func kinds(words string) [][]string {
	var all [][]string
	for _, one := range strings.Split(words, "|") {
		all = append(all, strings.Fields(one))
	}
	return all
}

func TestHeld(t *testing.T) {
	for _, c := range []struct {
		what, kinds string
		holders     int
		want        string
		changes     int
	}{
		{"the example", "a b a c a b", 2, "a|a b|a b|a c|a c|b c", 4},
		{"one holder", "a a b a", 1, "a|a|b|a", 3},
		{"one kind", "a a a", 3, "a|a|a", 1},
		{"as many holders as kinds", "c a b a c", 3, "c|a c|a b c|a b c|a b c", 3},
		{"more holders than kinds", "b a b", 8, "b|a b|a b", 2},
		{"sorted", "c b a", 3, "c|b c|a b c", 3},
		{"needed latest", "a b c b a", 2, "a|a b|b c|b c|a c", 4},
		{"needed latest, the other way round", "a b c a b", 2, "a|a b|a c|a c|b c", 4},
		{"by the next need", "a b c b a a a b", 2, "a|a b|b c|b c|a b|a b|a b|a b", 4},
		{"not needed before needed", "b a c a", 2, "b|a b|a c|a c", 3},
		{"not needed before needed latest", "a z c a a a", 2, "a|a z|a c|a c|a c|a c", 3},
		{"the first one of several", "b a c", 2, "b|a b|b c", 3},
		{"the first one of several, the other way round", "a b c", 2, "a|a b|b c", 3},
		{"first by bytes", "a1 a-1 a_1 a x", 4, "a1|a-1 a1|a-1 a1 a_1|a a-1 a1 a_1|a-1 a1 a_1 x", 5},
		{"what was just put in can be the first one", "a b c d", 2, "a|a b|b c|c d", 4},
	} {
		one := strings.Fields(c.kinds)
		is(t, c.what, two(tour.Held(one, c.holders)), list{kinds(c.want), api.OK})
		is(t, c.what, two(tour.Changes(one, c.holders)), list{c.changes, api.OK})
	}
	is(t, "no kinds", two(tour.Held(nil, 1)), list{[][]string{}, api.OK})
	is(t, "no kinds", two(tour.Changes([]string{}, api.MaxNozzles)), list{0, api.OK})
}

func TestHeldErrors(t *testing.T) {
	long := strings.Repeat("k", api.MaxName)
	many := slices.Repeat([]string{"a"}, api.MaxKinds)
	for _, c := range []struct {
		what    string
		kinds   []string
		holders int
		want    api.Errno
	}{
		{"no holders", nil, 0, api.ErrArg},
		{"below 0", nil, -1, api.ErrArg},
		{"too many holders", nil, api.MaxNozzles + 1, api.ErrArg},
		{"the least", nil, math.MinInt, api.ErrArg},
		{"the greatest", nil, math.MaxInt, api.ErrArg},
		{"holders first", append(many, "A"), 0, api.ErrArg},
		{"too many kinds", append(many, "a"), 1, api.ErrLarge},
		{"the number before names", append(many, "A"), 1, api.ErrLarge},
		{"no key", []string{"a", "A"}, 1, api.ErrName},
		{"empty", []string{""}, 1, api.ErrName},
		{"too long", []string{long + "k"}, 1, api.ErrName},
		{"blank", []string{"a b"}, 1, api.ErrName},
		{"the last one", append(slices.Clone(many[1:]), "0"), 1, api.ErrName},
	} {
		is(t, c.what, two(tour.Changes(c.kinds, c.holders)), list{0, c.want})
		is(t, c.what, two(tour.Held(c.kinds, c.holders)), list{[][]string{}, c.want})
	}
	is(t, "so many", two(tour.Changes(many, api.MaxNozzles)), list{1, api.OK})
	is(t, "the longest key", two(tour.Held([]string{long}, 1)), list{[][]string{{long}}, api.OK})
}

// fewest are the fewest changes, of all ways of choosing the holder.
func fewest(kinds, held []string, holders int, known map[string]int) int {
	if len(kinds) == 0 {
		return 0
	}
	held = slices.Sorted(slices.Values(held))
	key := fmt.Sprint(len(kinds), held)
	if n, is := known[key]; is {
		return n
	}
	least := 1 << 60
	if slices.Contains(held, kinds[0]) {
		least = fewest(kinds[1:], held, holders, known)
	} else {
		if len(held) < holders {
			least = 1 + fewest(kinds[1:], append(slices.Clone(held), kinds[0]), holders, known)
		}
		for i := range held {
			other := slices.Clone(held)
			other[i] = kinds[0]
			least = min(least, 1+fewest(kinds[1:], other, holders, known))
		}
	}
	known[key] = least
	return least
}

// heldInSteps does what P4.4 says.
func heldInSteps(kinds []string, holders int) [][]string {
	var all [][]string
	var held []string
	for i, kind := range kinds {
		if !slices.Contains(held, kind) {
			if len(held) == holders {
				when := func(k string) int {
					if at := slices.Index(kinds[i:], k); at >= 0 {
						return at
					}
					return len(kinds)
				}
				slices.Sort(held)
				out := 0
				for h := range held {
					if when(held[h]) > when(held[out]) {
						out = h
					}
				}
				held = slices.Delete(held, out, out+1)
			}
			held = append(held, kind)
		}
		all = append(all, slices.Sorted(slices.Values(held)))
	}
	return all
}

// changesOf is how many kinds come into the holders.
func changesOf(held [][]string) int {
	many := 0
	var before []string
	for _, now := range held {
		for _, kind := range now {
			if !slices.Contains(before, kind) {
				many++
			}
		}
		before = now
	}
	return many
}

// TestEveryChoice holds Changes against all choices, Held against P4.4, and that both have as many changes.
func TestEveryChoice(t *testing.T) {
	r := rand.New(rand.NewSource(9))
	for range 2000 {
		letters, holders := 1+r.Intn(7), 1+r.Intn(4)
		var kinds []string
		for range r.Intn(14) {
			kinds = append(kinds, string(rune('a'+r.Intn(letters))))
		}
		what := fmt.Sprint(kinds, holders)
		want := heldInSteps(kinds, holders)
		is(t, "held of "+what, two(tour.Held(kinds, holders)), list{want, api.OK})
		is(t, "changes of "+what, two(tour.Changes(kinds, holders)), list{changesOf(want), api.OK})
		is(t, "fewest of "+what, two(tour.Changes(kinds, holders)), list{fewest(kinds, nil, holders, map[string]int{}), api.OK})
	}
}

// TestMostKinds holds that as many kinds as there can be, all different or many of them again, are done soon.
func TestMostKinds(t *testing.T) {
	r := rand.New(rand.NewSource(10))
	for _, different := range []int{9, 100, api.MaxKinds} {
		var kinds []string
		for i := range api.MaxKinds {
			if different < api.MaxKinds {
				i = r.Intn(different)
			}
			kinds = append(kinds, fmt.Sprintf("k%d", i))
		}
		want := heldInSteps(kinds, api.MaxNozzles)
		is(t, "changes", two(tour.Changes(kinds, api.MaxNozzles)), list{changesOf(want), api.OK})
		held, e := tour.Held(kinds, api.MaxNozzles)
		is(t, "held", list{slices.EqualFunc(held, want, slices.Equal), e}, list{true, api.OK})
	}
}
