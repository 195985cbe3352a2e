package inspect

import (
	"maps"
	"slices"

	"reelfeeder/api"
)

// share is how many of all the components of something are bad.
type share struct{ bad, all int }

// and is a share with one more component.
func (s share) and(look api.Look) share {
	s.all++
	if look.Bad {
		s.bad++
	}
	return s
}

// greater says whether the part of bad components is greater than that of another share. Without components a share is
// neither greater nor less.
func (s share) greater(than share) bool { return s.bad*than.all > than.bad*s.all }

// named is the share of something with a name.
type named struct {
	name string
	share
}

// shareOf is the share of all components for which so is true.
func shareOf(l []api.Look, so func(api.Look) bool) share {
	var s share
	for _, look := range l {
		if so(look) {
			s = s.and(look)
		}
	}
	return s
}

// shares are those of everything that the names tell of looks, rising by name.
func shares(l []api.Look, names ...func(api.Look) string) []named {
	all := map[string]share{}
	for _, look := range l {
		for _, name := range names {
			of := name(look)
			all[of] = all[of].and(look)
		}
	}
	var rising []named
	for _, name := range slices.Sorted(maps.Keys(all)) {
		rising = append(rising, named{name, all[name]})
	}
	return rising
}

// those are the names of the shares that are so.
func those(l []named, so func(share) bool) []string {
	var names []string
	for _, n := range l {
		if so(n.share) {
			names = append(names, n.name)
		}
	}
	return names
}
