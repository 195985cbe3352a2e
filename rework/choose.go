package rework

import (
	"cmp"
	"slices"

	"reelfeeder/api"
	"reelfeeder/whole"
	"reelfeeder/word"
)

const maxValue = 1_000_000_000 // of a work

// checkWorks validates works.
func checkWorks(w []api.Work) api.Errno {
	if len(w) > api.MaxChoice {
		return api.ErrLarge
	}
	known := map[string]bool{}
	for _, work := range w {
		switch {
		case !word.Key(work.Board):
			return api.ErrName
		case !whole.Within(work.Minutes, 0, api.MaxMinutes) || !whole.Within(work.Value, 0, maxValue):
			return api.ErrArg
		case known[work.Board]:
			return api.ErrTwice
		}
		known[work.Board] = true
	}
	return api.OK
}

// Choose is the works with the greatest sum of values for which there is time.
func Choose(w []api.Work, minutes int) ([]int, int, api.Errno) {
	if e := checkWorks(w); e != api.OK {
		return nil, 0, e
	}
	if !whole.Within(minutes, 0, api.MaxMinutes) {
		return nil, 0, api.ErrArg
	}
	var best choice
	for set := range 1 << len(w) {
		c := chosen(w, set)
		if c.minutes <= minutes && c.compare(best) < 0 {
			best = c
		}
	}
	return best.indices, best.value, api.OK
}

// choice is some works, with the sums of their minutes and values.
type choice struct {
	indices        []int
	minutes, value int
}

// chosen are the works of a set (work i is in the sets that have bit i).
func chosen(w []api.Work, set int) choice {
	c := choice{indices: whole.Members(set)}
	for _, i := range c.indices {
		c.minutes += w[i].Minutes
		c.value += w[i].Value
	}
	return c
}

// compare is below 0 if a choice is better than another one.
func (c choice) compare(other choice) int {
	return cmp.Or(
		cmp.Compare(other.value, c.value),
		cmp.Compare(c.minutes, other.minutes),
		slices.Compare(c.indices, other.indices),
	)
}
