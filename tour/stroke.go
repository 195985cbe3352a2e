package tour

import (
	"slices"

	"reelfeeder/api"
	"reelfeeder/whole"
)

// lastSlot is the last slot of feeders that a head reaches.
const lastSlot = 1_000

// Strokes is which nozzle takes the component of each slot, with as few strokes as possible.
func Strokes(slots []int) ([]int, int, api.Errno) {
	if e := checkSlots(slots); e != api.OK {
		return nil, 0, e
	}
	nozzles, fewest := strokes(slots)
	return nozzles, fewest, api.OK
}

// Spread is from the least slot to behind the greatest one.
func Spread(slots []int) (api.Window, api.Errno) {
	if e := checkSlots(slots); e != api.OK {
		return api.Window{}, e
	}
	return api.Window{From: slices.Min(slots), To: slices.Max(slots) + 1}, api.OK
}

func checkSlots(slots []int) api.Errno {
	if len(slots) == 0 {
		return api.ErrNone
	}
	if len(slots) > api.MaxNozzles {
		return api.ErrLarge
	}
	if slices.ContainsFunc(slots, func(slot int) bool { return !whole.Within(slot, 0, lastSlot) }) {
		return api.ErrArg
	}
	return api.OK
}

// strokes tries the ways from the least one on, so of those with the fewest strokes the first one is taken.
func strokes(slots []int) ([]int, int) {
	var best []int
	fewest := len(slots) + 1
	var take func(nozzles, different []int)
	take = func(nozzles, different []int) {
		if len(different) >= fewest {
			return
		}
		if len(nozzles) == len(slots) {
			best, fewest = slices.Clone(nozzles), len(different)
			return
		}
		for nozzle := range slots {
			if slices.Contains(nozzles, nozzle) {
				continue
			}
			now, stroke := different, slots[len(nozzles)]-nozzle
			if !slices.Contains(different, stroke) {
				now = append(now, stroke)
			}
			take(append(nozzles, nozzle), now)
		}
	}
	take(nil, nil)
	return best, fewest
}
