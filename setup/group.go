package setup

import (
	"slices"

	"reelfeeder/api"
	"reelfeeder/whole"
)

// Groups divides products into as few groups as possible.
func Groups(slots int, p [][]string) ([][]int, api.Errno) {
	if e := CheckParts(slots, p); e != api.OK {
		return nil, e
	}
	if len(p) > api.MaxGrouped {
		return nil, api.ErrLarge
	}
	many := together(p)
	sets := divided(len(p), func(set int) bool { return many[set] <= slots })
	var groups [][]int
	for _, set := range sets {
		groups = append(groups, whole.Members(set))
	}
	return groups, api.OK
}

// divided are the fewest sets of products (product i is in the sets that have bit i) that fit. The divisions are tried
// from the least one on, so of those with as few sets the first one is taken.
func divided(products int, fits func(set int) bool) []int {
	var fewest []int
	for product := range products {
		fewest = append(fewest, 1<<product)
	}
	var put func(product int, sets []int)
	put = func(product int, sets []int) {
		if len(sets) >= len(fewest) {
			return
		}
		if product == products {
			fewest = slices.Clone(sets)
			return
		}
		for i, set := range sets {
			if wider := set | 1<<product; fits(wider) {
				sets[i] = wider
				put(product+1, sets)
				sets[i] = set
			}
		}
		put(product+1, append(sets, 1<<product))
	}
	put(0, nil)
	return fewest
}

// Always are the parts that all products need.
func Always(p [][]string) ([]string, api.Errno) {
	if e := CheckParts(api.MaxSetup, p); e != api.OK {
		return nil, e
	}
	if len(p) == 0 {
		return nil, api.OK
	}
	var always []string
	for _, part := range p[0] {
		if !slices.ContainsFunc(p, func(parts []string) bool { return !needs(parts, part) }) {
			always = append(always, part)
		}
	}
	return always, api.OK
}
