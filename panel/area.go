package panel

import "reelfeeder/api"

// span is from a coordinate to a greater one.
type span struct{ from, to int }

// area is a rectangle.
type area struct{ x, y span }

// apart is how far two spans are apart: less than 0 if they have more in common than an end.
func (s span) apart(t span) int { return max(s.from-t.to, t.from-s.to) }

// nearPairs calls found for the pairs of areas that are less than gap apart in both directions, in order.
func nearPairs(areas []area, gap int, found func(i, j int)) {
	for i, a := range areas {
		for j := i + 1; j < len(areas); j++ {
			if b := areas[j]; a.x.apart(b.x) < gap && a.y.apart(b.y) < gap {
				found(i, j)
			}
		}
	}
}

// turnedSize is how wide and high a rectangle is after so many quarters.
func turnedSize(wide, high, quarter int) (int, int) {
	if quarter%2 == 1 {
		return high, wide
	}
	return wide, high
}

// boardArea is the area of the board in a slot.
func boardArea(p api.Product, s api.Slot) area {
	wide, high := turnedSize(p.Wide, p.High, s.Quarter)
	return area{span{s.X, s.X + wide}, span{s.Y, s.Y + high}}
}
