package line_test

import (
	"fmt"
	"math"
	"math/rand"
	"slices"
	"testing"

	"reelfeeder/api"
	"reelfeeder/line"
)

func TestBoards(t *testing.T) {
	for _, c := range []struct {
		what, cycles, buffers string
		boards                int
		leave, blocked, idle  string
		rate                  api.Fraction
	}{
		{"the example", "10 30", "0", 3, "40 70 100", "40 0", "0 0", api.Fraction{Num: 3, Den: 100}},
		{"the slow one first", "30 10", "0", 3, "40 70 100", "0 0", "0 40", api.Fraction{Num: 3, Den: 100}},
		{"room for one", "10 30", "1", 4, "40 70 100 130", "30 0", "0 0", api.Fraction{Num: 2, Den: 65}},
		{"room for all", "10 30", "2", 4, "40 70 100 130", "0 0", "0 0", api.Fraction{Num: 2, Den: 65}},
		{"more room than boards", "10 30", "2000", 4, "40 70 100 130", "0 0", "0 0", api.Fraction{Num: 2, Den: 65}},
		{"one machine", "7", "", 3, "7 14 21", "0", "0", api.Fraction{Num: 1, Den: 7}},
		{"one board", "7 1 5", "0 0", 1, "13", "0 0 0", "0 0 0", api.Fraction{Num: 1, Den: 13}},
		{"alike", "5 5 5", "0 0", 3, "15 20 25", "0 0 0", "0 0 0", api.Fraction{Num: 3, Den: 25}},
		{"blocked by one that is blocked", "1 1 5", "0 0", 4, "7 12 17 22", "8 12 0", "0 0 0", api.Fraction{Num: 2, Den: 11}},
		{"blocked, then idle", "2 9 4", "0 0", 3, "15 24 33", "14 0 0", "0 0 10", api.Fraction{Num: 1, Den: 11}},
		{"one in the way of idling", "3 1 5", "0 0", 4, "9 14 19 24", "2 10 0", "0 2 0", api.Fraction{Num: 1, Den: 6}},
		{"the same with room", "3 1 5", "0 3", 4, "9 14 19 24", "0 0 0", "0 6 0", api.Fraction{Num: 1, Den: 6}},
	} {
		cycles, buffers := numbers(c.cycles), numbers(c.buffers)
		is(t, c.what, two(line.Leave(cycles, buffers, c.boards)), list{numbers(c.leave), api.OK})
		is(t, c.what, three(line.Blocked(cycles, buffers, c.boards)), list{numbers(c.blocked), numbers(c.idle), api.OK})
		is(t, c.what, two(line.Rate(cycles, buffers, c.boards)), list{c.rate, api.OK})
	}
}

// TestBoardErrors holds the errors of Leave, Blocked and Rate, and their order.
func TestBoardErrors(t *testing.T) {
	for _, c := range []struct {
		what            string
		cycles, buffers []int
		boards          int
		want            api.Errno
	}{
		{"no cycles", nil, []int{-1}, 0, api.ErrNone},
		{"too many machines", make([]int, api.MaxMachines+1), nil, 0, api.ErrLarge},
		{"much too many machines", make([]int, 200_000), nil, 0, api.ErrLarge},
		{"cycle before buffers", []int{1, 0}, nil, 0, api.ErrArg},
		{"no buffer", []int{1, 1}, nil, 0, api.ErrForm},
		{"too many buffers", []int{1, 1}, []int{-1, -1}, 0, api.ErrForm},
		{"much too many buffers", []int{1, 1}, make([]int, 200_000), 0, api.ErrForm},
		{"a buffer of one machine", []int{1}, []int{0}, 1, api.ErrForm},
		{"room below 0", []int{1, 1, 1}, []int{0, -1}, 1, api.ErrArg},
		{"too much room", []int{1, 1, 1}, []int{0, api.MaxBoards + 1}, 1, api.ErrArg},
		{"the most room", []int{1, 1, 1}, []int{0, api.MaxBoards}, 1, api.OK},
		{"the longest cycles", []int{api.MaxTime, 1, api.MaxTime}, []int{0, 0}, 1, api.OK},
		{"as many machines as there can be", []int{1, 1, 1, 1, 1, 1}, make([]int, 5), 1, api.OK},
	} {
		leave, e := line.Leave(c.cycles, c.buffers, c.boards)
		is(t, c.what, list{len(leave), e}, list{c.boards * boolean(e == api.OK), c.want})
		_, _, e = line.Blocked(c.cycles, c.buffers, c.boards)
		is(t, c.what, e, c.want)
		_, e = line.Rate(c.cycles, c.buffers, c.boards)
		is(t, c.what, e, c.want)
	}
	refused := func(what string, cycles, buffers []int, boards int) {
		is(t, what, two(line.Leave(cycles, buffers, boards)), list{[]int{}, api.ErrArg})
		is(t, what, three(line.Blocked(cycles, buffers, boards)), list{[]int{}, []int{}, api.ErrArg})
		is(t, what, two(line.Rate(cycles, buffers, boards)), list{api.Fraction{}, api.ErrArg})
	}
	for _, n := range append(beyond(api.MaxTime), 0) {
		refused("cycle", []int{1, n}, []int{0}, 1)
	}
	for _, n := range beyond(api.MaxBoards) {
		refused("room", []int{1, 1}, []int{n}, 1)
		refused("boards", []int{1, 1}, []int{0}, n)
	}
	refused("no boards", []int{1, 1}, []int{0}, 0)
}

func boolean(b bool) int {
	if b {
		return 1
	}
	return 0
}

// station is a machine in time: whether it has a board, how long it still works on it, and what was counted of it.
type station struct {
	has           bool
	work          int
	taken         int
	blocked, idle int
}

// move lets boards go on as far as they can at a moment, and says how many leave the line.
func move(all []station, waiting, cycles, buffers []int) int {
	gone := 0
	for moved := true; moved; {
		moved = false
		for k := range all {
			s := &all[k]
			if !s.has && waiting[k] > 0 {
				waiting[k]--
				*s = station{has: true, work: cycles[k], taken: s.taken + 1, blocked: s.blocked, idle: s.idle}
				moved = true
			}
			if !s.has || s.work > 0 {
				continue
			}
			switch {
			case k == len(all)-1:
				gone++
			case waiting[k+1] < buffers[k] || waiting[k+1] == 0 && !all[k+1].has:
				waiting[k+1]++
			default:
				continue
			}
			s.has, moved = false, true
		}
	}
	return gone
}

// inTime moves boards through a line, millisecond by millisecond, as P5.3 says it.
func inTime(cycles, buffers []int, boards int) (leave, blocked, idle []int) {
	all := make([]station, len(cycles))
	waiting := make([]int, len(cycles)) // before each machine
	waiting[0] = boards
	for at := 0; len(leave) < boards; at++ {
		for range move(all, waiting, cycles, buffers) {
			leave = append(leave, at)
		}
		for k := range all {
			s := &all[k]
			switch {
			case s.has && s.work > 0:
				s.work--
			case s.has:
				s.blocked++
			case s.taken > 0 && s.taken < boards:
				s.idle++
			}
		}
	}
	for _, s := range all {
		blocked, idle = append(blocked, s.blocked), append(idle, s.idle)
	}
	return leave, blocked, idle
}

// anyCycles are those of a line of some machines, and buffers between them.
func anyCycles(r *rand.Rand) ([]int, []int) {
	var cycles, buffers []int
	size := 1 + r.Intn(12)
	for k := range 1 + r.Intn(api.MaxMachines) {
		cycles = append(cycles, 1+r.Intn(size))
		if k > 0 {
			buffers = append(buffers, r.Intn(4))
		}
	}
	return cycles, buffers
}

// TestEveryBoard holds Leave, Blocked and Rate against P5.3 in time, and that no board is earlier than all cycles
// together, nor later with more room.
func TestEveryBoard(t *testing.T) {
	r := rand.New(rand.NewSource(8))
	for range 3000 {
		cycles, buffers := anyCycles(r)
		boards := 1 + r.Intn(12)
		leave, blocked, idle := inTime(cycles, buffers, boards)
		what := fmt.Sprint(cycles, buffers, boards)
		is(t, "leave "+what, two(line.Leave(cycles, buffers, boards)), list{leave, api.OK})
		is(t, "blocked "+what, three(line.Blocked(cycles, buffers, boards)), list{blocked, idle, api.OK})
		rate, e := line.Rate(cycles, buffers, boards)
		is(t, "rate "+what, list{rate.Num * leave[boards-1], e}, list{rate.Den * boards, api.OK})
		is(t, "lowest terms "+what, common(rate.Num, rate.Den), 1)
		together := 0
		for _, cycle := range cycles {
			together += cycle
		}
		is(t, "first "+what, leave[0], together)
		for k := range buffers {
			more := slices.Clone(buffers)
			more[k]++
			now, e := line.Leave(cycles, more, boards)
			is(t, "more room "+what, e, api.OK)
			for i := range now {
				is(t, "later "+what, now[i] > leave[i], false)
			}
		}
	}
}

// common is the greatest number that divides two numbers above 0.
func common(a, b int) int {
	for n := min(a, b); ; n-- {
		if a%n == 0 && b%n == 0 {
			return n
		}
	}
}

// TestMostBoards holds that the most boards are done soon, and that no number is too great.
func TestMostBoards(t *testing.T) {
	const long = api.MaxTime
	cycles, buffers := slices.Repeat([]int{long}, api.MaxMachines), make([]int, api.MaxMachines-1)
	leave, e := line.Leave(cycles, buffers, api.MaxBoards)
	is(t, "leave", list{len(leave), leave[0], leave[api.MaxBoards-1], e}, list{api.MaxBoards, 6 * long, 2005 * long, api.OK})
	is(t, "rate", two(line.Rate(cycles, buffers, api.MaxBoards)), list{api.Fraction{Num: 1, Den: 10_025_000}, api.OK})
	cycles[0], buffers[2] = 1, api.MaxBoards
	blocked, idle, e := line.Blocked(cycles, buffers, api.MaxBoards)
	is(t, "blocked", list{blocked[1:], idle, e}, list{make([]int, 5), make([]int, 6), api.OK})
	is(t, "blocked first", blocked[0], (api.MaxBoards-1)*(long-1))
	is(t, "boards", two(line.Leave(cycles, buffers, math.MaxInt)), list{[]int{}, api.ErrArg})
}
