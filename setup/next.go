package setup

import (
	"cmp"
	"slices"
	"strings"

	"reelfeeder/api"
)

// Next is the setup that a product needs, made of another one.
func Next(s []string, parts []string, later [][]string) ([]string, api.Errno) {
	if e := check(s, append([][]string{parts}, later...)); e != api.OK {
		return nil, e
	}
	return next(s, parts, later), api.OK
}

func next(s []string, parts []string, later [][]string) []string {
	made := slices.Clone(s)
	missing := missingIn(s)
	room := roomFor(s, parts, later)
	for i, part := range missing(parts) {
		made[room[i]] = part
	}
	return made
}

// roomFor are the slots into which missing parts can be put, in the order in which they are taken: the empty ones,
// then those of parts that the product does not need.
func roomFor(s []string, parts []string, later [][]string) []int {
	var empty, spare []int
	when := make([]int, len(s))
	for slot, part := range s {
		switch {
		case part == none:
			empty = append(empty, slot)
		case !needs(parts, part):
			spare = append(spare, slot)
			when[slot] = firstNeed(later, part)
		}
	}
	slices.SortFunc(spare, func(a, b int) int {
		return cmp.Or(cmp.Compare(when[b], when[a]), strings.Compare(s[b], s[a]))
	})
	return append(empty, spare...)
}

// firstNeed is the first of the products that needs a part, or one after the last product if none of them does.
func firstNeed(p [][]string, part string) int {
	i := slices.IndexFunc(p, func(parts []string) bool { return needs(parts, part) })
	if i < 0 {
		return len(p)
	}
	return i
}

// Setups are those for products in an order.
func Setups(s []string, p [][]string) ([][]string, api.Errno) {
	if e := check(s, p); e != api.OK {
		return nil, e
	}
	return setups(s, p), api.OK
}

func setups(s []string, p [][]string) [][]string {
	var made [][]string
	for i, parts := range p {
		s = next(s, parts, p[i+1:])
		made = append(made, s)
	}
	return made
}

// Total is how many parts are put in for all products.
func Total(s []string, p [][]string) (int, api.Errno) {
	if e := check(s, p); e != api.OK {
		return 0, e
	}
	total := 0
	for _, made := range setups(s, p) {
		total += loads(changes(s, made))
		s = made
	}
	return total, api.OK
}
