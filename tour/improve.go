package tour

import (
	"slices"

	"reelfeeder/api"
)

// Improved turns parts of an order, as long as this makes the tour shorter.
func Improved(start api.Point, p []api.Point, order []int) ([]int, int, api.Errno) {
	if e := checkTour(start, p, order); e != api.OK {
		return nil, 0, e
	}
	better := improved(start, p, order)
	return better, length(start, p, better), api.OK
}

// improved turns the parts. Those that begin before the part that was turned last had all been tried just before: only
// those of them are tried again that end where the way on has changed.
func improved(start api.Point, p []api.Point, order []int) []int {
	order = slices.Clone(order)
	shorter := shorterIn(start, p, order)
	var turned api.Window
	for i := 0; i < len(order); {
		ends := api.Window{From: i + 1, To: len(order)}
		if i < turned.From {
			ends = api.Window{From: max(i+1, turned.From-1), To: turned.To}
		}
		k := ends.From
		for k < ends.To && !shorter(i, k) {
			k++
		}
		if k == ends.To {
			i++
			continue
		}
		slices.Reverse(order[i : k+1])
		turned = api.Window{From: i, To: k + 1}
		i = 0
	}
	return order
}

// shorterIn gives what says whether turning the part of an order from a place to another one makes the tour shorter.
// Only the way to the part and the way from it on change their lengths.
func shorterIn(start api.Point, p []api.Point, order []int) func(i, k int) bool {
	at := func(place int) api.Point {
		if place < 0 || place == len(order) { // the head comes from the start, and goes back there
			return start
		}
		return p[order[place]]
	}
	return func(i, k int) bool {
		before, first, last, behind := at(i-1), at(i), at(k), at(k+1)
		return distance(before, last)+distance(first, behind) < distance(before, first)+distance(last, behind)
	}
}
