package part

import (
	"slices"

	"reelfeeder/api"
)

// alternates are the parts of a valid catalogue, and which ones directly replace each one. Parts are told by their
// places in the catalogue: these are in the order of the keys.
type alternates struct {
	parts []api.Part
	place map[string]int
	by    [][]int // rising
}

func alternatesOf(c api.Catalogue) alternates {
	a := alternates{c.Parts, places(c.Parts), make([][]int, len(c.Parts))}
	eachReplacement(c.Alternates, func(part, by string) {
		i := a.place[part]
		a.by[i] = append(a.by[i], a.place[by])
	})
	for _, l := range a.by {
		slices.Sort(l)
	}
	return a
}

// find is where parts are, of a catalogue that it checks first.
func find(c api.Catalogue, keys ...string) (alternates, []int, api.Errno) {
	if e := CheckCatalogue(c); e != api.OK {
		return alternates{}, nil, e
	}
	a := alternatesOf(c)
	var found []int
	for _, key := range keys {
		i, is := a.place[key]
		if !is {
			return alternates{}, nil, api.ErrNone
		}
		found = append(found, i)
	}
	return a, found, api.OK
}

// keys are the keys of parts at places.
func (a alternates) keys(l []int) []string {
	var keys []string
	for _, i := range l {
		keys = append(keys, a.parts[i].Key)
	}
	return keys
}

// Direct are the parts that directly replace a part.
func Direct(c api.Catalogue, part string) ([]string, api.Errno) {
	a, at, e := find(c, part)
	if e != api.OK {
		return nil, e
	}
	return a.keys(a.by[at[0]]), api.OK
}

// All are the parts that replace a part, directly or by way of others.
func All(c api.Catalogue, part string) ([]string, api.Errno) {
	a, at, e := find(c, part)
	if e != api.OK {
		return nil, e
	}
	reached, _ := reach(a.by, at[0])
	others := reached[1:]
	slices.Sort(others)
	return a.keys(others), api.OK
}

// Chain is the shortest list of parts from one to another one.
func Chain(c api.Catalogue, part, by string) ([]string, bool, api.Errno) {
	a, at, e := find(c, part, by)
	if e != api.OK {
		return nil, false, e
	}
	from, to := at[0], at[1]
	_, before := reach(a.by, from)
	if before[to] == nowhere {
		return nil, false, api.OK
	}
	chain := []int{to}
	for i := to; i != from; {
		i = before[i]
		chain = append(chain, i)
	}
	slices.Reverse(chain)
	return a.keys(chain), true, api.OK
}

// Groups are the groups of parts that all replace one another.
func Groups(c api.Catalogue) ([][]string, api.Errno) {
	a, _, e := find(c)
	if e != api.OK {
		return nil, e
	}
	back := reversed(a.by)
	grouped := make([]bool, len(a.parts))
	var groups [][]string
	for i := range a.parts {
		if grouped[i] {
			continue
		}
		group := mutual(a.by, back, i)
		for _, j := range group {
			grouped[j] = true
		}
		if len(group) > 1 {
			groups = append(groups, a.keys(group))
		}
	}
	return groups, api.OK
}
