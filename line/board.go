package line

import (
	"slices"

	"reelfeeder/api"
	"reelfeeder/whole"
)

// mostRoom is how much room the buffers can have of which the least are looked for.
const mostRoom = 3

// Leave is when each board leaves the last machine.
func Leave(cycles, buffers []int, boards int) ([]int, api.Errno) {
	if e := checkBoards(cycles, buffers, boards); e != api.OK {
		return nil, e
	}
	all := passes(cycles, buffers, boards)
	var left []int
	for _, p := range all[len(all)-1] {
		left = append(left, p.left)
	}
	return left, api.OK
}

// Blocked is how long each machine was blocked, and how long it was idle.
func Blocked(cycles, buffers []int, boards int) ([]int, []int, api.Errno) {
	if e := checkBoards(cycles, buffers, boards); e != api.OK {
		return nil, nil, e
	}
	blocked, idle := make([]int, len(cycles)), make([]int, len(cycles))
	for k, own := range passes(cycles, buffers, boards) {
		for board, p := range own {
			blocked[k] += p.left - p.finished
			if board > 0 {
				idle[k] += p.come - own[board-1].left
			}
		}
	}
	return blocked, idle, api.OK
}

// Rate is the number of boards divided by when the last one leaves.
func Rate(cycles, buffers []int, boards int) (api.Fraction, api.Errno) {
	left, e := Leave(cycles, buffers, boards)
	if e != api.OK {
		return api.Fraction{}, e
	}
	return whole.Lowest(boards, left[boards-1]), api.OK
}

// Enough are the least buffers with which the last board leaves as early as with the greatest ones. No room is needed
// for that, as a machine takes as long for each board. Let C be the sum of the cycles up to a machine, and L the longest
// cycle: even without room, board i leaves this machine at C + i*L at the latest, if this holds for the machine before
// and for board i-1 at this machine and the next one. And whatever the room, the last board leaves the line no earlier
// than then, as the slowest machine works on one board after the other.
func Enough(cycles []int, boards, most int) ([]int, api.Errno) {
	if e := checkCycles(cycles); e != api.OK {
		return nil, e
	}
	if !validBoards(boards) || !whole.Within(most, 0, mostRoom) {
		return nil, api.ErrArg
	}
	return make([]int, len(cycles)-1), api.OK
}

// checkBoards validates a line with buffers, and how many boards enter it.
func checkBoards(cycles, buffers []int, boards int) api.Errno {
	if e := checkCycles(cycles); e != api.OK {
		return e
	}
	if len(buffers) != len(cycles)-1 {
		return api.ErrForm
	}
	outside := func(room int) bool { return !whole.Within(room, 0, api.MaxBoards) }
	if slices.ContainsFunc(buffers, outside) || !validBoards(boards) {
		return api.ErrArg
	}
	return api.OK
}

func checkCycles(cycles []int) api.Errno {
	if len(cycles) == 0 {
		return api.ErrNone
	}
	if len(cycles) > api.MaxMachines {
		return api.ErrLarge
	}
	if slices.ContainsFunc(cycles, func(cycle int) bool { return !whole.Within(cycle, 1, api.MaxTime) }) {
		return api.ErrArg
	}
	return api.OK
}

func validBoards(boards int) bool { return whole.Within(boards, 1, api.MaxBoards) }

// pass is when a board has come to a machine, when that was finished with it, and when it left the machine.
type pass struct{ come, finished, left int }

// passes is how each board passes each machine. The buffer and the next machine have room for one board more than the
// buffer alone: a board can leave when the one that is so many before it has left the next machine.
func passes(cycles, buffers []int, boards int) [][]pass {
	all := make([][]pass, len(cycles))
	for k := range all {
		all[k] = make([]pass, boards)
	}
	left := func(machine, board int) int {
		if machine < 0 || board < 0 {
			return 0
		}
		return all[machine][board].left
	}
	for board := range boards {
		for k, cycle := range cycles {
			come := max(left(k-1, board), left(k, board-1))
			p := pass{come: come, finished: come + cycle, left: come + cycle}
			if k < len(buffers) {
				p.left = max(p.left, left(k+1, board-1-buffers[k]))
			}
			all[k][board] = p
		}
	}
	return all
}
