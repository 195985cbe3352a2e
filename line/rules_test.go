package line_test

import (
	"fmt"
	"math"
	"math/rand"
	"slices"
	"strings"
	"sync"
	"testing"

	"reelfeeder/api"
	"reelfeeder/line"
)

// arguments are those of all functions.
type arguments struct {
	m               []api.Machine
	n               []api.Need
	plan            []int
	cycles, buffers []int
	boards, most    int
}

// everything is what all functions return for some arguments, as a string.
func everything(a arguments) string {
	var all strings.Builder
	add := func(v ...any) { fmt.Fprintln(&all, v...) }
	add(line.CheckMachines(a.m), line.CheckNeeds(a.n))
	add(two(line.Cycles(a.m, a.n, a.plan)))
	add(three(line.Slowest(a.m, a.n, a.plan)))
	add(four(line.Balance(a.m, a.n)))
	add(three(line.First(a.m, a.n)))
	add(two(line.Bound(a.m, a.n)))
	add(two(line.Nobody(a.m, a.n)))
	add(four(line.Better(a.m, a.n, a.plan)))
	add(two(line.Leave(a.cycles, a.buffers, a.boards)))
	add(three(line.Blocked(a.cycles, a.buffers, a.boards)))
	add(two(line.Rate(a.cycles, a.buffers, a.boards)))
	add(two(line.Enough(a.cycles, a.boards, a.most)))
	return all.String()
}

// usual are arguments that have a value everywhere.
func usual() arguments {
	return arguments{
		m: machines("m1 2 5 3 a b c, m2 3 1 3 a b d, m3 1 4 2 d"), n: needs("a 4, b 3, c 2, d 9"), plan: numbers("0 0 0 1"),
		cycles: numbers("3 1 5"), buffers: numbers("0 1"), boards: 6, most: 2,
	}
}

// hidden is a copy of a list with memory after its length.
func hidden[T any](l []T, after T) []T { return append(append([]T{}, l...), after)[:len(l)] }

// TestArguments holds Z2 (arguments are not changed, and memory after their length is neither read nor written) and Z7.
func TestArguments(t *testing.T) {
	want := everything(usual())
	a := usual()
	a.m, a.n = hidden(a.m, api.Machine{Key: "A"}), hidden(a.n, api.Need{Part: "A"})
	a.plan, a.cycles, a.buffers = hidden(a.plan, 7), hidden(a.cycles, -1), hidden(a.buffers, -1)
	for k := range a.m {
		a.m[k].Can = hidden(a.m[k].Can, "A")
	}
	before := fmt.Sprint(a)
	for range 20 {
		is(t, "with hidden memory", everything(a), want)
	}
	is(t, "arguments", fmt.Sprint(a), before)
	is(t, "hidden", list{a.m[:4][3].Key, a.m[0].Can[:4][3], a.n[:5][4].Part, a.plan[:5][4], a.cycles[:4][3], a.buffers[:3][2]}, list{"A", "A", "A", 7, -1, -1})
}

// TestResults holds Z2: results are new memory, also one from the other.
func TestResults(t *testing.T) {
	a := usual()
	want := everything(usual())
	cycles, _ := line.Cycles(a.m, a.n, a.plan)
	balance, _, _, _ := line.Balance(a.m, a.n)
	first, _, _ := line.First(a.m, a.n)
	leave, _ := line.Leave(a.cycles, a.buffers, a.boards)
	blocked, idle, _ := line.Blocked(a.cycles, a.buffers, a.boards)
	enough, _ := line.Enough(a.cycles, a.boards, a.most)
	nobody, _ := line.Nobody(a.m, needs("z 1"))
	nobody[0] = "x"
	for _, l := range [][]int{cycles, balance, first, leave, blocked, enough} {
		l[0] = 9
		_ = append(l, 9)
	}
	is(t, "idle", idle, numbers("0 7 0"))
	is(t, "all", everything(a), want)
}

// TestGoroutines holds Z1: any number of goroutines at once.
func TestGoroutines(t *testing.T) {
	want := everything(usual())
	a := usual()
	var wait sync.WaitGroup
	for range 8 {
		wait.Go(func() {
			for range 50 {
				if everything(a) != want {
					t.Error("another result in a goroutine")
				}
			}
		})
	}
	wait.Wait()
}

// odd are numbers of which few are good for anything.
var odd = []int{0, 1, 2, -1, 3, 4, 100, 101, 1000, 1001, 2001, api.MaxTime, api.MaxTime + 1, math.MaxInt, math.MinInt}

// spoil puts odd values into a list, seldom.
func spoil[T any](r *rand.Rand, l []T, odd ...T) {
	for i := range l {
		if r.Intn(60) == 0 {
			l[i] = odd[r.Intn(len(odd))]
		}
	}
}

// spoilMachines puts odd values into machines, seldom.
func spoilMachines(r *rand.Rand, m []api.Machine) {
	for k := range m {
		n := []int{m[k].Each, m[k].Fixed, m[k].Feeders}
		spoil(r, n, odd...)
		m[k].Each, m[k].Fixed, m[k].Feeders = n[0], n[1], n[2]
		spoil(r, m[k].Can, bad...)
	}
	spoil(r, m, m[0], api.Machine{}, api.Machine{Key: "x", Feeders: 100, Can: names("p", api.MaxPlacements+1)})
}

// TestAnything holds Z1, Z3 and Z6: no arguments lead to a panic, and with an error there is nothing else.
func TestAnything(t *testing.T) {
	r := rand.New(rand.NewSource(11))
	accepted, planned, moved := 0, 0, 0
	for range 5000 {
		a := arguments{boards: 1 + r.Intn(9), most: r.Intn(4)}
		a.m, a.n = anyLine(r, 6, 10)
		a.cycles, a.buffers = anyCycles(r)
		for range a.n {
			a.plan = append(a.plan, r.Intn(len(a.m)))
		}
		if r.Intn(10) == 0 {
			a.boards, a.most = odd[r.Intn(len(odd))], odd[r.Intn(len(odd))]
		}
		spoilMachines(r, a.m)
		spoil(r, a.n, api.Need{}, api.Need{Part: "a", Many: math.MinInt}, api.Need{Part: "z", Many: math.MaxInt})
		for _, l := range [][]int{a.plan, a.cycles, a.buffers} {
			spoil(r, l, odd...)
		}
		everything(a)
		if line.CheckMachines(a.m) == api.OK && line.CheckNeeds(a.n) == api.OK {
			accepted++
			plan, longest, found, e := line.Balance(a.m, a.n)
			is(t, "no plan", list{len(plan) == 0 && longest == 0 || found, e}, list{true, api.OK})
			if found {
				planned++
				cycles, e := line.Cycles(a.m, a.n, plan)
				is(t, "the longest", list{slices.Max(cycles), e}, list{longest, api.OK})
			}
		}
		if _, e := line.Leave(a.cycles, a.buffers, a.boards); e == api.OK {
			moved++
		}
	}
	if accepted < 1000 || planned < 300 || moved < 1000 {
		t.Error("too little is accepted:", accepted, planned, moved)
	}
}

// TestLargeArguments holds Z1: arguments as large as they can be are refused soon.
func TestLargeArguments(t *testing.T) {
	const large = 200_000
	a := arguments{m: make([]api.Machine, large), n: make([]api.Need, large), plan: make([]int, large), cycles: make([]int, large), buffers: make([]int, large), boards: large, most: large}
	everything(a)
	a.m, a.cycles = machines("m 1 1 1 a"), []int{1}
	everything(a)
	a.n = needs("a 1")
	is(t, "a plan", two(line.Cycles(a.m, a.n, a.plan)), list{[]int{}, api.ErrForm})
	everything(a)
}
