package panel_test

import (
	"math"
	"math/rand"
	"testing"

	"reelfeeder/api"
	"reelfeeder/panel"
)

func TestAt(t *testing.T) {
	for i, want := range []api.Spot{
		{Slot: 0, Name: "c1", X: 10, Y: 5, Quarter: 0},
		{Slot: 1, Name: "c1", X: 100 + 35, Y: 10 + 10, Quarter: 1},
		{Slot: 2, Name: "c1", X: 200 + 90, Y: 20 + 35, Quarter: 2},
		{Slot: 3, Name: "c1", X: 300 + 5, Y: 30 + 90, Quarter: 3},
	} {
		is(t, "c1", values(panel.At(board(), four(), i, "c1")), values(want, api.OK))
	}
	for i, want := range []int{3, 0, 1, 2} {
		got, e := panel.At(board(), four(), i, "r2")
		is(t, "sum of quarters", list{got.Quarter, e}, list{want, api.OK})
	}
	n := four()
	n.Slots[1].Skip = true
	is(t, "skipped slots too", values(panel.At(board(), n, 1, "c1")), values(api.Spot{Slot: 1, Name: "c1", X: 135, Y: 20, Quarter: 1}, api.OK))
}

func TestAtExample(t *testing.T) {
	n := api.Panel{Wide: 40, High: 100, Slots: []api.Slot{{Quarter: 1}}}
	is(t, "example", values(panel.At(board(), n, 0, "c1")), values(api.Spot{Name: "c1", X: 35, Y: 10, Quarter: 1}, api.OK))
}

func TestAtNone(t *testing.T) {
	for _, slot := range []int{-1, 4, math.MinInt, math.MaxInt} {
		noValue(t, "no slot", values(panel.At(board(), four(), slot, "c1")), api.ErrNone)
	}
	for _, name := range []string{"", "c", "c10", "z", "C1", "cap", "\xff"} {
		noValue(t, "no placement", values(panel.At(board(), four(), 0, name)), api.ErrNone)
	}
}

func TestSpots(t *testing.T) {
	n := four()
	n.Slots[0].Skip, n.Slots[2].Skip = true, true
	is(t, "spots", values(panel.Spots(board(), n)), values([]api.Spot{
		{Slot: 1, Name: "c1", X: 135, Y: 20, Quarter: 1},
		{Slot: 1, Name: "r1", X: 120, Y: 60, Quarter: 2},
		{Slot: 1, Name: "r2", X: 100, Y: 110, Quarter: 0},
		{Slot: 3, Name: "c1", X: 305, Y: 120, Quarter: 3},
		{Slot: 3, Name: "r1", X: 320, Y: 80, Quarter: 0},
		{Slot: 3, Name: "r2", X: 340, Y: 30, Quarter: 2},
	}, api.OK))
	is(t, "none", values(panel.Spots(board(), slots(0))), values(none[api.Spot](), api.OK))
	all, e := panel.Spots(many(api.MaxPlacements), slots(api.MaxSlots))
	is(t, "most", list{len(all), e}, list{api.MaxPlacements * api.MaxSlots, api.OK})
}

func TestTurned(t *testing.T) {
	n := api.Panel{Wide: 300, High: 200, Slots: []api.Slot{{X: 10, Y: 20}, {X: 30, Y: 40, Quarter: 3, Skip: true}, {X: 299, Y: 160, Quarter: 2}}}
	want := api.Panel{Wide: 200, High: 300, Slots: []api.Slot{{X: 140, Y: 10, Quarter: 1}, {X: 60, Y: 30, Quarter: 0, Skip: true}, {X: 0, Y: 299, Quarter: 3}}}
	is(t, "turned", values(panel.Turned(board(), n)), values(want, api.OK))
	n.Slots[1].Y = 101 // the turned board is 100 high
	noValue(t, "beyond the upper edge", values(panel.Turned(board(), n)), api.ErrArg)
	n.Slots[1].Y = 100
	is(t, "at the upper edge", second(panel.Turned(board(), n)), api.OK)
	is(t, "no slots", values(panel.Turned(board(), api.Panel{Wide: 1, High: 2})), values(api.Panel{Wide: 2, High: 1}, api.OK))
}

func second[T any](_ T, e api.Errno) api.Errno { return e }

// fitting is a panel whose boards are all within it.
func fitting(r *rand.Rand, p api.Product) api.Panel {
	n := api.Panel{Wide: 120 + r.Intn(200), High: 120 + r.Intn(200)}
	for range r.Intn(8) {
		s := api.Slot{Quarter: r.Intn(4), Skip: r.Intn(3) == 0}
		wide, high := p.Wide, p.High
		if s.Quarter%2 == 1 {
			wide, high = high, wide
		}
		s.X, s.Y = r.Intn(n.Wide-wide+1), r.Intn(n.High-high+1)
		n.Slots = append(n.Slots, s)
	}
	return n
}

// TestTurning holds that turning moves all components like points of the panel, changes no overlaps, and leads back to the start.
func TestTurning(t *testing.T) {
	r := rand.New(rand.NewSource(1))
	p := board()
	for range 200 {
		n := fitting(r, p)
		was := n
		for range 4 {
			next, e := panel.Turned(p, n)
			is(t, "error", e, api.OK)
			spots, _ := panel.Spots(p, n)
			for i, s := range spots {
				spots[i] = api.Spot{Slot: s.Slot, Name: s.Name, X: n.High - s.Y, Y: s.X, Quarter: (s.Quarter + 1) % 4}
			}
			is(t, "spots", values(panel.Spots(p, next)), values(spots, api.OK))
			is(t, "overlaps", values(panel.Overlaps(p, next)), values(panel.Overlaps(p, n)))
			is(t, "outside", values(panel.Outside(p, next)), values(none[int](), api.OK))
			n = next
		}
		is(t, "turned four times", n, was)
	}
}

func TestOutside(t *testing.T) {
	n := api.Panel{Wide: 150, High: 120, Slots: []api.Slot{
		{X: 50, Y: 80}, {X: 51, Y: 80}, {X: 50, Y: 81},
		{X: 110, Y: 20, Quarter: 1}, {X: 111, Y: 20, Quarter: 1}, {X: 110, Y: 21, Quarter: 1, Skip: true},
		{X: 50, Y: 80, Quarter: 2}, {X: 0, Y: 81, Quarter: 2}, {X: 111, Y: 0, Quarter: 3}, {X: api.MaxCoordinate, Y: api.MaxCoordinate},
	}}
	is(t, "outside", values(panel.Outside(board(), n)), values([]int{1, 2, 4, 5, 7, 8, 9}, api.OK))
	is(t, "none", values(panel.Outside(board(), four())), values(none[int](), api.OK))
}

func TestOverlaps(t *testing.T) {
	for _, c := range []struct {
		what string
		a, b api.Slot
		want bool
	}{
		{"the same place", api.Slot{X: 5, Y: 5}, api.Slot{X: 5, Y: 5}, true},
		{"touching in x", api.Slot{}, api.Slot{X: 100}, false},
		{"overlapping in x", api.Slot{}, api.Slot{X: 99}, true},
		{"touching in y", api.Slot{}, api.Slot{Y: 40}, false},
		{"overlapping in y", api.Slot{}, api.Slot{Y: 39}, true},
		{"touching in a corner", api.Slot{}, api.Slot{X: 100, Y: 40}, false},
		{"overlapping in a corner", api.Slot{}, api.Slot{X: 99, Y: 39}, true},
		{"turned, touching", api.Slot{Quarter: 1}, api.Slot{X: 40}, false},
		{"turned, overlapping", api.Slot{Quarter: 1}, api.Slot{X: 39, Y: 99}, true},
		{"a cross", api.Slot{Y: 50}, api.Slot{X: 50, Quarter: 3}, true},
		{"skipped", api.Slot{Skip: true}, api.Slot{X: 99, Skip: true}, true},
		{"far in y", api.Slot{}, api.Slot{X: 10, Y: 200}, false},
	} {
		var want [][2]int
		if c.want {
			want = [][2]int{{0, 1}}
		}
		is(t, c.what, values(panel.Overlaps(board(), api.Panel{Wide: 1, High: 1, Slots: []api.Slot{c.a, c.b}})), values(want, api.OK))
		is(t, c.what, values(panel.Overlaps(board(), api.Panel{Wide: 1, High: 1, Slots: []api.Slot{c.b, c.a}})), values(want, api.OK))
	}
	n := api.Panel{Wide: 500, High: 500, Slots: []api.Slot{{X: 90, Y: 30}, {X: 300}, {}, {X: 50}}}
	is(t, "in order", values(panel.Overlaps(board(), n)), values([][2]int{{0, 2}, {0, 3}, {2, 3}}, api.OK))
	all, e := panel.Overlaps(board(), slots(api.MaxSlots))
	is(t, "most", list{len(all), e}, list{api.MaxSlots * (api.MaxSlots - 1) / 2, api.OK})
}
