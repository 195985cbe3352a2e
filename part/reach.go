package part

import "slices"

// nowhere is before what is not reached.
const nowhere = -1

// reach gives what is reached from a start (it first) by way of lists of what is next to each, and what is before each
// one on the way to it (the start before itself). As the lists are rising, what is reached by fewer steps, and then by
// the lexicographically smaller way, comes first: so each way is the smallest one of the shortest ones.
func reach(next [][]int, start int) ([]int, []int) {
	before := slices.Repeat([]int{nowhere}, len(next))
	before[start] = start
	reached := []int{start}
	for k := 0; k < len(reached); k++ {
		i := reached[k]
		for _, j := range next[i] {
			if before[j] == nowhere {
				before[j] = i
				reached = append(reached, j)
			}
		}
	}
	return reached, before
}

// reversed has what is before each one in place of what is next to it.
func reversed(next [][]int) [][]int {
	back := make([][]int, len(next))
	for i, l := range next {
		for _, j := range l {
			back[j] = append(back[j], i)
		}
	}
	return back
}

// mutual are those, rising, that are reached from a start and from which it is reached; the start, too.
func mutual(next, back [][]int, start int) []int {
	there, _ := reach(next, start)
	_, behind := reach(back, start)
	both := slices.DeleteFunc(there, func(i int) bool { return behind[i] == nowhere })
	slices.Sort(both)
	return both
}
