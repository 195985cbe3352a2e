package setup_test

import (
	"fmt"
	"math/rand"
	"slices"
	"testing"

	"reelfeeder/api"
	"reelfeeder/setup"
)

func TestBest(t *testing.T) {
	for _, c := range []struct {
		what, s, p string
		order      []int
		loads      int
	}{
		{"as in the middle", "- -", "a b|c d|b c", []int{0, 2, 1}, 4},
		{"what is there first", "c d", "a b|c d|b c", []int{1, 2, 0}, 2},
		{"one", "-", "a", []int{0}, 1},
		{"one that is there", "a", "a", []int{0}, 0},
		{"without parts", "a", "||", []int{0, 1, 2}, 0},
		{"the same", "- -", "a b|a b|a b", []int{0, 1, 2}, 2},
		{"the least of several", "- -", "c d|a b", []int{0, 1}, 4},
		{"the same behind each other", "-", "a|b|a|b", []int{0, 2, 1, 3}, 2},
		{"room for one part that stays", "- -", "a b|c|a b", []int{0, 2, 1}, 3},
		{"empty slots", "x - - - -", "a b|c d|a b", []int{0, 1, 2}, 4},
	} {
		is(t, c.what, three(setup.Best(slots(c.s), products(c.p))), list{c.order, c.loads, api.OK})
	}
	is(t, "no products", three(setup.Best(slots("a"), nil)), list{[]int{}, 0, api.OK})
}

func TestNearest(t *testing.T) {
	for _, c := range []struct {
		what, s, p string
		order      []int
		loads      int
	}{
		{"the first of several", "c -", "a b|c d|b c", []int{1, 2, 0}, 3},
		{"fewest first", "- - -", "a b c|d|e f", []int{1, 2, 0}, 6},
		{"without parts first", "- -", "a||b", []int{1, 0, 2}, 2},
		{"what is there first", "c b", "a|c|b", []int{1, 2, 0}, 1},
		{"no look at later products", "c a", "b|c", []int{1, 0}, 1},
		{"takes out what is the greatest", "a b", "c d|b c|a d", []int{1, 0, 2}, 3},
		{"takes out what is needed next", "- -", "a z|b|z", []int{1, 2, 0}, 3},
		{"loads more than the best order", "- -", "p z|a|b|c z", []int{1, 2, 0, 3}, 5},
	} {
		is(t, c.what, three(setup.Nearest(slots(c.s), products(c.p))), list{c.order, c.loads, api.OK})
	}
	is(t, "no products", three(setup.Nearest(slots("a"), nil)), list{[]int{}, 0, api.OK})
	is(t, "most products", lastTwo(setup.Nearest(slots("a"), make([][]string, api.MaxSequence))), list{0, api.OK})
}

func lastTwo(_ []int, n int, e api.Errno) list { return list{n, e} }

// TestBestBound holds that only Best has at most MaxProducts products, and that it says so at the end.
func TestBestBound(t *testing.T) {
	p := make([][]string, api.MaxProducts+1)
	for i := range p {
		p[i] = []string{fmt.Sprintf("k%d", i)}
	}
	s := slots("- k7")
	is(t, "so many", three(setup.Best(s, p[:api.MaxProducts])), list{[]int{0, 1, 2, 3, 4, 5, 6, 7}, 7, api.OK})
	is(t, "one more", three(setup.Best(s, p)), list{[]int{}, 0, api.ErrLarge})
	is(t, "nearest", three(setup.Nearest(s, p)), list{[]int{7, 0, 1, 2, 3, 4, 5, 6, 8}, 8, api.OK})
	p[api.MaxProducts] = []string{"A"}
	is(t, "names first", three(setup.Best(s, p)), list{[]int{}, 0, api.ErrName})
	is(t, "slots first", three(setup.Best(nil, p)), list{[]int{}, 0, api.ErrNone})
}

// eachOrder tells all orders, rising.
func eachOrder(many int, order []int, tell func([]int)) {
	if len(order) == many {
		tell(order)
		return
	}
	for i := range many {
		if !slices.Contains(order, i) {
			eachOrder(many, append(slices.Clone(order), i), tell)
		}
	}
}

func inOrder(p [][]string, order []int) [][]string {
	var l [][]string
	for _, i := range order {
		l = append(l, p[i])
	}
	return l
}

// TestEveryOrder holds Best against the Total of all orders.
func TestEveryOrder(t *testing.T) {
	r := rand.New(rand.NewSource(8))
	for i := range 1000 {
		many := r.Intn(6)
		if i%100 == 0 {
			many = 7
		}
		s, p := anyCase(r, 7, 1+r.Intn(12), many)
		var best []int
		least := 1 << 30
		eachOrder(many, nil, func(order []int) {
			n, e := setup.Total(s, inOrder(p, order))
			if e != api.OK {
				t.Error("total:", e)
			}
			if n < least {
				best, least = order, n
			}
		})
		is(t, fmt.Sprint("best of ", s, p), three(setup.Best(s, p)), list{best, least, api.OK})
	}
}

// TestEveryNearest holds Nearest against the rule of thumb, with Missing and Next.
func TestEveryNearest(t *testing.T) {
	r := rand.New(rand.NewSource(9))
	for range 1000 {
		s, p := anyCase(r, 7, 1+r.Intn(12), r.Intn(12))
		var order []int
		loads, here := 0, s
		for range p {
			next, fewest := -1, 1<<30
			for i := range p {
				missing, _ := setup.Missing(here, p[i])
				if !slices.Contains(order, i) && len(missing) < fewest {
					next, fewest = i, len(missing)
				}
			}
			order = append(order, next)
			loads += fewest
			here, _ = setup.Next(here, p[next], nil)
		}
		is(t, fmt.Sprint("nearest of ", s, p), three(setup.Nearest(s, p)), list{order, loads, api.OK})
	}
}

// TestLargestOrder holds that the most products with the most parts are ordered soon.
func TestLargestOrder(t *testing.T) {
	r := rand.New(rand.NewSource(10))
	all := names("k", 2*api.MaxSetup)
	for range 5 {
		var p [][]string
		for range api.MaxProducts {
			var parts []string
			for _, i := range r.Perm(len(all))[:api.MaxSetup-r.Intn(60)] {
				parts = append(parts, all[i])
			}
			slices.Sort(parts)
			p = append(p, parts)
		}
		s := all[:api.MaxSetup]
		order, least, e := setup.Best(s, p)
		is(t, "best", list{len(order), e}, list{api.MaxProducts, api.OK})
		is(t, "total", two(setup.Total(s, inOrder(p, order))), list{least, api.OK})
		near, loads, e := setup.Nearest(s, p)
		is(t, "nearest", list{len(near), loads >= least, e}, list{api.MaxProducts, true, api.OK})
	}
}
