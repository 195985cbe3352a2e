package tour

import (
	"cmp"
	"slices"
	"strings"

	"reelfeeder/api"
	"reelfeeder/whole"
	"reelfeeder/word"
)

// Changes is the smallest number of changes of nozzles.
func Changes(kinds []string, holders int) (int, api.Errno) {
	if e := checkKinds(kinds, holders); e != api.OK {
		return 0, e
	}
	many := 0
	hold(kinds, holders, func(_ []nozzle, changed bool) {
		if changed {
			many++
		}
	})
	return many, api.OK
}

// Held is what the holders have after each component.
func Held(kinds []string, holders int) ([][]string, api.Errno) {
	if e := checkKinds(kinds, holders); e != api.OK {
		return nil, e
	}
	var all [][]string
	hold(kinds, holders, func(held []nozzle, _ bool) {
		var now []string
		for _, n := range held {
			now = append(now, n.kind)
		}
		slices.Sort(now)
		all = append(all, now)
	})
	return all, api.OK
}

// checkKinds validates holders, and the kinds of nozzles that components need.
func checkKinds(kinds []string, holders int) api.Errno {
	if !whole.Within(holders, 1, api.MaxNozzles) {
		return api.ErrArg
	}
	if len(kinds) > api.MaxKinds {
		return api.ErrLarge
	}
	if slices.ContainsFunc(kinds, func(kind string) bool { return !word.Key(kind) }) {
		return api.ErrName
	}
	return api.OK
}

// nozzle is a nozzle in a holder: its kind, and which component needs it again.
type nozzle struct {
	kind  string
	again int
}

// hold tells what the holders have after each component, and whether there was a change for it. No other choice of
// what is taken away leads to fewer changes: one that is needed earlier would have to come back earlier.
func hold(kinds []string, holders int, tell func(held []nozzle, changed bool)) {
	again := neededAgain(kinds)
	var held []nozzle
	for i, kind := range kinds {
		n := nozzle{kind: kind, again: again[i]}
		at := slices.IndexFunc(held, func(h nozzle) bool { return h.kind == kind })
		switch {
		case at >= 0:
			held[at] = n
		case len(held) < holders:
			held = append(held, n)
		default:
			held[neededLatest(held)] = n
		}
		tell(held, at < 0)
	}
}

// neededAgain is for each component the next one that needs the same kind, or one after the last one if none does.
func neededAgain(kinds []string) []int {
	again := make([]int, len(kinds))
	next := map[string]int{}
	for i, kind := range slices.Backward(kinds) {
		later, needed := next[kind]
		if !needed {
			later = len(kinds)
		}
		again[i] = later
		next[kind] = i
	}
	return again
}

// neededLatest is the holder of the nozzle that is taken away.
func neededLatest(held []nozzle) int {
	latest := 0
	for i, n := range held {
		if cmp.Or(cmp.Compare(held[latest].again, n.again), strings.Compare(n.kind, held[latest].kind)) < 0 {
			latest = i
		}
	}
	return latest
}
