package line_test

import (
	"fmt"
	"math"
	"math/rand"
	"slices"
	"testing"

	"reelfeeder/api"
	"reelfeeder/line"
)

func TestEnough(t *testing.T) {
	for _, c := range []struct {
		what, cycles string
		boards, most int
		want         string
	}{
		{"two machines", "10 30", 3, 2, "0"},
		{"one machine", "10", 3, 3, ""},
		{"no room allowed", "3 1 5", 9, 0, "0 0"},
		{"one board", "3 1 5 2 9 4", 1, 3, "0 0 0 0 0"},
		{"slow ones behind quick ones", "2 9 9 2 9", 5, 1, "0 0 0 0"},
		{"as much as there can be", "10000000 1 10000000 1 1 10000000", api.MaxBoards, 3, "0 0 0 0 0"},
	} {
		is(t, c.what, two(line.Enough(numbers(c.cycles), c.boards, c.most)), list{numbers(c.want), api.OK})
	}
}

// TestEnoughErrors holds the errors of Enough, and their order.
func TestEnoughErrors(t *testing.T) {
	for _, c := range []struct {
		what         string
		cycles       []int
		boards, most int
		want         api.Errno
	}{
		{"no cycles", nil, 0, 4, api.ErrNone},
		{"too many machines", make([]int, api.MaxMachines+1), 0, 4, api.ErrLarge},
		{"much too many machines", make([]int, 200_000), 1, 1, api.ErrLarge},
		{"a cycle of 0", []int{1, 0}, 1, 1, api.ErrArg},
		{"no boards", []int{1, 1}, 0, 1, api.ErrArg},
		{"too much room", []int{1, 1}, 1, 4, api.ErrArg},
		{"too much room for nothing", []int{1}, 1, 4, api.ErrArg},
	} {
		is(t, c.what, two(line.Enough(c.cycles, c.boards, c.most)), list{[]int{}, c.want})
	}
	for _, n := range beyond(api.MaxTime) {
		is(t, "cycle", two(line.Enough([]int{1, n}, 1, 1)), list{[]int{}, api.ErrArg})
	}
	for _, n := range beyond(api.MaxBoards) {
		is(t, "boards", two(line.Enough([]int{1, 1}, n, 1)), list{[]int{}, api.ErrArg})
	}
	for _, n := range beyond(3) {
		is(t, "most", two(line.Enough([]int{1, 1}, 1, n)), list{[]int{}, api.ErrArg})
	}
}

// eachBuffers tells all buffers, the least list first.
func eachBuffers(gaps, most int, buffers []int, tell func([]int)) {
	if len(buffers) == gaps {
		tell(slices.Clone(buffers))
		return
	}
	for room := range most + 1 {
		eachBuffers(gaps, most, append(buffers, room), tell)
	}
}

// TestEveryBuffer holds Enough against all buffers, with boards that move through the line in time.
func TestEveryBuffer(t *testing.T) {
	r := rand.New(rand.NewSource(9))
	for range 300 {
		cycles, buffers := anyCycles(r)
		boards, most := 1+r.Intn(8), r.Intn(4)
		if len(buffers) > 3 {
			most = min(most, 1)
		}
		var best []int
		early, least := math.MaxInt, 0
		eachBuffers(len(buffers), most, nil, func(buffers []int) {
			leave, _, _ := inTime(cycles, buffers, boards)
			last, sum := leave[boards-1], 0
			for _, room := range buffers {
				sum += room
			}
			if last < early || last == early && sum < least {
				best, early, least = buffers, last, sum
			}
		})
		is(t, fmt.Sprint("enough ", cycles, boards, most), two(line.Enough(cycles, boards, most)), list{best, api.OK})
	}
}
