package part

import (
	"reelfeeder/api"
	"reelfeeder/whole"
	"reelfeeder/word"
)

// The greatest number of a needed part, or of one that is there, and how many digits it has.
const (
	mostNeeded = 1_000_000
	mostDigits = 7
)

// Short are the needed parts of which some are missing.
func Short(c api.Catalogue, need, have []api.Pair) ([]string, bool, api.Errno) {
	a, _, e := find(c)
	if e != api.OK {
		return nil, false, e
	}
	needed, e := a.numbers(need)
	if e != api.OK {
		return nil, false, e
	}
	there, e := a.numbers(have)
	if e != api.OK {
		return nil, false, e
	}
	left := map[string]int{}
	for i, h := range have {
		left[h.Name] = there[i]
	}
	take := func(part string, many int) int {
		taken := min(many, left[part])
		left[part] -= taken
		return taken
	}
	var short []string
	for i, n := range need {
		missing := needed[i] - take(n.Name, needed[i])
		for _, by := range a.keys(a.by[a.place[n.Name]]) {
			missing -= take(by, missing)
		}
		if missing > 0 {
			short = append(short, n.Name)
		}
	}
	return short, len(short) == 0, api.OK
}

// numbers are those of pairs of a part and a number, which it validates.
func (a alternates) numbers(l []api.Pair) ([]int, api.Errno) {
	if len(l) > api.MaxParts {
		return nil, api.ErrLarge
	}
	var numbers []int
	for i, p := range l {
		_, is := a.place[p.Name]
		n, ok := word.Number(p.Value, mostDigits)
		switch {
		case !is:
			return nil, api.ErrNone
		case !ok || !whole.Within(n, 0, mostNeeded):
			return nil, api.ErrSyntax
		case i > 0 && p.Name <= l[i-1].Name:
			return nil, api.ErrOrder
		}
		numbers = append(numbers, n)
	}
	return numbers, api.OK
}
