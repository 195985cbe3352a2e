package panel_test

import (
	"fmt"
	"math"
	"math/rand"
	"strings"
	"sync"
	"testing"

	"reelfeeder/api"
	"reelfeeder/panel"
)

// all is what every function returns for some arguments, as a string.
func all(p, q api.Product, n api.Panel, b []api.Body, number int, f [5]api.Point) string {
	var s strings.Builder
	add := func(v ...any) { fmt.Fprintf(&s, "%+v\n", v) }
	add(panel.CheckProduct(p), panel.CheckPanel(p, n))
	add(values(panel.Needs(p)))
	add(values(panel.At(p, n, number, "c1")))
	add(values(panel.Spots(p, n)))
	add(values(panel.Outside(p, n)))
	add(values(panel.Overlaps(p, n)))
	add(values(panel.Turned(p, n)))
	add(values(panel.Crowded(p, b, number)))
	add(values(panel.Beyond(p, b, number)))
	add(values(panel.Corrected(points{f[0], f[1]}, points{f[2], f[3]}, f[4])))
	add(values(panel.Stretch(points{f[0], f[1]}, points{f[2], f[3]})))
	x, y, z, e := panel.Changed(p, q)
	add(x, y, z, e)
	text, e := panel.Text(p)
	add(text, e)
	r, line, e := panel.Read(text)
	add(r, line, e)
	return s.String()
}

// hidden is a copy of a list with memory after its length.
func hidden[T any](l []T, after T) []T { return append(append([]T{}, l...), after)[:len(l)] }

// TestArguments holds Z2 (arguments are not changed, and memory after their length is neither read nor written) and Z7.
func TestArguments(t *testing.T) {
	p, q, n, b := board(), two(1, 2, 3), four(), []api.Body{{Part: "cap", Wide: 3, High: 2}}
	f := [5]api.Point{pt(0, 0), pt(10, 0), pt(1, 1), pt(2, 12), pt(7, 7)}
	want := all(p, q, n, b, 2, f)
	bad, badSlot, badBody := api.Placement{Name: "zz", X: -1}, api.Slot{X: -1}, api.Body{Wide: -1}
	p.Placements, q.Placements = hidden(p.Placements, bad), hidden(q.Placements, bad)
	n.Slots, b = hidden(n.Slots, badSlot), hidden(b, badBody)
	before := fmt.Sprintf("%+v", list{p, q, n, b})
	is(t, "with hidden memory", all(p, q, n, b, 2, f), want)
	is(t, "again", all(p, q, n, b, 2, f), want)
	is(t, "arguments", fmt.Sprintf("%+v", list{p, q, n, b}), before)
	is(t, "hidden", list{p.Placements[:4][3], q.Placements[:4][3], n.Slots[:5][4], b[:2][1]}, list{bad, bad, badSlot, badBody})
}

// TestResults holds Z2: results are new memory.
func TestResults(t *testing.T) {
	p, n := board(), four()
	turned, _ := panel.Turned(p, n)
	for i := range turned.Slots {
		turned.Slots[i].X = -1
	}
	is(t, "argument", n, four())

	spots, _ := panel.Spots(p, n)
	spots[0].Name = "changed"
	again, _ := panel.Spots(p, n)
	is(t, "spots", again[0].Name, "c1")

	other := board()
	other.Placements[0].Name, other.Placements[1].X = "c2", 1
	first, second, both, _ := panel.Changed(p, other)
	for _, l := range [][]string{first, second, both} {
		l = append(l, "x")
		l[0] = "changed"
	}
	first, second, both, _ = panel.Changed(p, other)
	is(t, "changed", list{first, second, both}, list{"[c1]", "[c2]", "[r1]"})

	text, _ := panel.Text(p)
	got, _, _ := panel.Read(text)
	got.Placements[0].Name = "changed"
	got, _, _ = panel.Read(text)
	is(t, "read", got, p)
}

// TestGoroutines holds Z1: any number of goroutines at once.
func TestGoroutines(t *testing.T) {
	p, q, n, b := board(), two(1, 2, 3), four(), []api.Body{{Part: "cap", Wide: 3, High: 2}}
	f := [5]api.Point{pt(0, 0), pt(10, 0), pt(1, 1), pt(2, 12), pt(7, 7)}
	want := all(p, q, n, b, 2, f)
	var wait sync.WaitGroup
	for range 8 {
		wait.Go(func() {
			for range 50 {
				if all(p, q, n, b, 2, f) != want {
					t.Error("another result in a goroutine")
				}
			}
		})
	}
	wait.Wait()
}

// TestAnything holds Z1 and Z6: no arguments lead to a panic, and whatever is accepted can be used.
func TestAnything(t *testing.T) {
	r := rand.New(rand.NewSource(4))
	number := func() int {
		odd := []int{0, 1, 2, 3, 4, -1, api.MaxCoordinate, api.MaxCoordinate + 1, -api.MaxCoordinate, math.MaxInt, math.MinInt}
		return odd[r.Intn(len(odd))]
	}
	usual := func() int {
		if r.Intn(12) == 0 {
			return number()
		}
		return 1 + r.Intn(3)
	}
	name := func(i int) string {
		if r.Intn(12) == 0 {
			return []string{"", "\xff", "A", "c1", " ", long + "k"}[r.Intn(6)]
		}
		return fmt.Sprint("c", i)
	}
	product := func() api.Product {
		p := api.Product{Key: name(0), Wide: 2 + usual(), High: 2 + usual()}
		for i := range r.Intn(4) {
			p.Placements = append(p.Placements, api.Placement{Name: name(i), Part: name(r.Intn(3)), X: usual(), Y: usual(), Quarter: usual()})
		}
		return p
	}
	accepted := 0
	for range 20_000 {
		p, n := product(), api.Panel{Wide: usual(), High: usual()}
		for range r.Intn(4) {
			n.Slots = append(n.Slots, api.Slot{X: usual(), Y: usual(), Quarter: usual(), Skip: r.Intn(2) == 0})
		}
		var b []api.Body
		for i := range r.Intn(3) {
			b = append(b, api.Body{Part: name(i), Wide: usual(), High: usual()})
		}
		var f [5]api.Point
		for i := range f {
			f[i] = pt(number(), number())
		}
		all(p, product(), n, b, usual(), f)
		if panel.CheckProduct(p) == api.OK {
			accepted++
			text, _ := panel.Text(p)
			got, line, e := panel.Read(text)
			is(t, "read", list{got, line, e}, list{p, 0, api.OK})
		}
	}
	if accepted < 1000 {
		t.Error("too few products are accepted:", accepted)
	}
}

// FuzzRead holds Z10: what is read is what is written, and nothing else is accepted.
func FuzzRead(f *testing.F) {
	for _, s := range []string{"", "product p 100 40\n", "product p 100 40\nplace c1 cap 10 5 0\nplace r1 res 50 20 1\n", "product p -0 40\n", "product p 1 1\nplace"} {
		f.Add(s)
	}
	f.Fuzz(func(t *testing.T, s string) {
		p, line, e := panel.Read(s)
		if e != api.OK {
			is(t, "value", p, api.Product{})
			if e != api.ErrSyntax && line != 0 {
				t.Error("a line without ErrSyntax:", line)
			}
			return
		}
		text, e := panel.Text(p)
		is(t, "text", list{text, line, e}, list{s, 0, api.OK})
	})
}
