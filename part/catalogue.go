// Package part keeps a catalogue of parts and alternates, and how long parts may lie in the air.
package part

import (
	"cmp"
	"strings"

	"reelfeeder/api"
	"reelfeeder/whole"
	"reelfeeder/word"
)

// highestLevel is the moisture level of the parts that take up moisture most quickly.
const highestLevel = 6

// CheckCatalogue validates a catalogue.
func CheckCatalogue(c api.Catalogue) api.Errno {
	if e := checkParts(c.Parts); e != api.OK {
		return e
	}
	if e := checkAlternates(c); e != api.OK {
		return e
	}
	if replacedTwice(c.Alternates) {
		return api.ErrTwice
	}
	return api.OK
}

func checkParts(l []api.Part) api.Errno {
	if len(l) > api.MaxParts {
		return api.ErrLarge
	}
	for i, p := range l {
		switch {
		case !word.Key(p.Key) || !word.Key(p.Package):
			return api.ErrName
		case !validLevel(p.Level) || !whole.Within(p.Bake, 0, api.MaxBake):
			return api.ErrArg
		case i > 0 && p.Key <= l[i-1].Key:
			return api.ErrOrder
		}
	}
	return api.OK
}

func validLevel(level int) bool { return whole.Within(level, 1, highestLevel) }

// checkAlternates validates each alternate of a catalogue whose parts are valid.
func checkAlternates(c api.Catalogue) api.Errno {
	if len(c.Alternates) > api.MaxAlternates {
		return api.ErrLarge
	}
	place := places(c.Parts)
	for i, a := range c.Alternates {
		_, isFor := place[a.For]
		_, isBy := place[a.By]
		switch {
		case !isFor || !isBy:
			return api.ErrNone
		case a.For == a.By:
			return api.ErrForm
		case i > 0 && compareAlternates(a, c.Alternates[i-1]) <= 0:
			return api.ErrOrder
		}
	}
	return api.OK
}

func compareAlternates(a, b api.Alternate) int {
	return cmp.Or(strings.Compare(a.For, b.For), strings.Compare(a.By, b.By))
}

// replacedTwice says whether two alternates replace the same part by the same one.
func replacedTwice(l []api.Alternate) bool {
	type direction struct{ part, by string }
	seen := map[direction]bool{}
	twice := false
	eachReplacement(l, func(part, by string) {
		d := direction{part, by}
		twice = twice || seen[d]
		seen[d] = true
	})
	return twice
}

// eachReplacement tells replace in which directions parts directly replace others.
func eachReplacement(l []api.Alternate, replace func(part, by string)) {
	for _, a := range l {
		replace(a.For, a.By)
		if a.Both {
			replace(a.By, a.For)
		}
	}
}

// places is where each part of a list is.
func places(l []api.Part) map[string]int {
	place := map[string]int{}
	for i, p := range l {
		place[p.Key] = i
	}
	return place
}

// Odd are the alternates whose parts have different packages.
func Odd(c api.Catalogue) ([]api.Pair, api.Errno) {
	if e := CheckCatalogue(c); e != api.OK {
		return nil, e
	}
	place := places(c.Parts)
	var odd []api.Pair
	for _, a := range c.Alternates {
		if c.Parts[place[a.For]].Package != c.Parts[place[a.By]].Package {
			odd = append(odd, api.Pair{Name: a.For, Value: a.By})
		}
	}
	return odd, api.OK
}
