package setup

import (
	"math"
	"slices"

	"reelfeeder/api"
)

// Best is the order of products with the fewest loads.
func Best(s []string, p [][]string) ([]int, int, api.Errno) {
	if e := check(s, p); e != api.OK {
		return nil, 0, e
	}
	if len(p) > api.MaxProducts {
		return nil, 0, api.ErrLarge
	}
	order, total := best(s, p)
	return order, total, api.OK
}

// best tries the orders from the least one on.
func best(s []string, p [][]string) ([]int, int) {
	first := slices.DeleteFunc(slices.Clone(s), func(part string) bool { return part == none })
	lists := append(slices.Clone(p), first)
	var order []int
	fewest := math.MaxInt
	var extend func(w way)
	extend = func(w way) {
		if w.loads >= fewest { // a later order has to be better
			return
		}
		if len(w.order) == len(lists) {
			order, fewest = w.order[1:], w.loads
			return
		}
		for product := range p {
			if !slices.Contains(w.order, product) {
				extend(w.with(product))
			}
		}
	}
	extend(way{slots: len(s), many: together(lists), order: []int{len(p)}, room: []int{0}})
	return order, fewest
}

// way is the beginning of an order of lists of parts: what is in the slots at first, then products.
//
// A part need not be put in if it stayed in its slot since it was needed last; so long it takes one of the slots that
// each list between leaves. Most parts stay if, list by list, those are preferred that have to stay shortest: a part
// that then finds no slot could only stay in place of one of them. So the loads are those of Next, which takes out
// what is needed latest.
type way struct {
	slots int
	many  []int // how many parts each set of lists has together
	order []int
	room  []int // how many slots each list of the order leaves
	loads int
}

// with is the way on which a product follows.
func (w way) with(product int) way {
	w.room = slices.Clone(w.room)
	own := 1 << product
	between, free := 0, math.MaxInt
	for i := len(w.order) - 1; i >= 0; i-- {
		wider := between | 1<<w.order[i]
		neededHere := w.without(own, between) - w.without(own, wider)
		stay := min(neededHere, free)
		for k := i + 1; k < len(w.room); k++ {
			w.room[k] -= stay
		}
		w.loads -= stay
		between, free = wider, min(free-stay, w.room[i])
	}
	w.loads += w.many[own]
	w.order = append(slices.Clone(w.order), product)
	w.room = append(w.room, w.slots-w.many[own])
	return w
}

// without is how many parts of some lists are in none of others.
func (w way) without(some, others int) int { return w.many[some|others] - w.many[others] }

// together is how many different parts each set of lists has: list i is in the sets that have bit i.
func together(lists [][]string) []int {
	in := map[string]int{}
	for i, parts := range lists {
		for _, part := range parts {
			in[part] |= 1 << i
		}
	}
	many := make([]int, 1<<len(lists))
	for _, having := range in {
		for set := range many {
			if set&having != 0 {
				many[set]++
			}
		}
	}
	return many
}

// Nearest is the order by the rule of thumb.
func Nearest(s []string, p [][]string) ([]int, int, api.Errno) {
	if e := check(s, p); e != api.OK {
		return nil, 0, e
	}
	var order []int
	total := 0
	for range p {
		product, missing := nearest(s, p, order)
		s = next(s, p[product], nil)
		order = append(order, product)
		total += missing
	}
	return order, total, api.OK
}

// nearest is the product with the fewest missing parts of those that are not made yet, and how many are missing.
func nearest(s []string, p [][]string, made []int) (int, int) {
	missing := missingIn(s)
	product, fewest := 0, math.MaxInt
	for i, parts := range p {
		if slices.Contains(made, i) {
			continue
		}
		if many := len(missing(parts)); many < fewest {
			product, fewest = i, many
		}
	}
	return product, fewest
}
