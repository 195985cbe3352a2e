package inspect

import (
	"maps"
	"strconv"

	"reelfeeder/api"
	"reelfeeder/whole"
	"reelfeeder/word"
)

// checkLeast validates looks, and from how many components on something is told.
func checkLeast(l []api.Look, least int) api.Errno {
	if e := CheckLooks(l); e != api.OK {
		return e
	}
	if !whole.Within(least, 1, api.MaxLooks) {
		return api.ErrArg
	}
	return api.OK
}

// Positions are the components that are bad on so many boards.
func Positions(l []api.Look, least int) ([]string, api.Errno) {
	if e := checkLeast(l, least); e != api.OK {
		return nil, e
	}
	positions := shares(l, func(look api.Look) string { return look.Name })
	return those(positions, func(s share) bool { return s.bad >= least }), api.OK
}

// Rows are the components that are bad on so many successive boards.
func Rows(l []api.Look, long int) ([]api.Pair, api.Errno) {
	if e := checkLeast(l, long); e != api.OK {
		return nil, e
	}
	rows := longestRows(l)
	maps.DeleteFunc(rows, func(_ string, many int) bool { return many < long })
	return word.ByNumber(rows), api.OK
}

// longestRows is on how many successive boards each component is bad. The boards follow each other as the looks do.
func longestRows(l []api.Look) map[string]int {
	row, longest := map[string]int{}, map[string]int{}
	for _, look := range l {
		if look.Bad {
			row[look.Name]++
		} else {
			row[look.Name] = 0
		}
		longest[look.Name] = max(longest[look.Name], row[look.Name])
	}
	return longest
}

// ByMachine is how many components of each machine are bad.
func ByMachine(l []api.Look) ([]api.Pair, api.Errno) {
	if e := CheckLooks(l); e != api.OK {
		return nil, e
	}
	var machines []api.Pair
	for _, m := range shares(l, func(look api.Look) string { return look.Machine }) {
		machines = append(machines, api.Pair{Name: m.name, Value: strconv.Itoa(m.bad) + "/" + strconv.Itoa(m.all)})
	}
	return machines, api.OK
}

// Suspect is the nozzle or the reel with the greatest part of bad components.
func Suspect(l []api.Look, least int) (string, api.Fraction, bool, api.Errno) {
	if e := checkLeast(l, least); e != api.OK {
		return "", api.Fraction{}, false, e
	}
	nozzle := func(look api.Look) string { return "nozzle " + look.Nozzle }
	reel := func(look api.Look) string { return "reel " + look.Reel }
	worst := named{share: shareOf(l, func(api.Look) bool { return true })}
	for _, n := range shares(l, nozzle, reel) {
		if n.all >= least && n.greater(worst.share) {
			worst = n
		}
	}
	if worst.name == "" {
		return "", api.Fraction{}, false, api.OK
	}
	return worst.name, whole.Lowest(worst.bad, worst.all), true, api.OK
}

// Worse says whether the part of bad components of a reel grew at a moment.
func Worse(l []api.Look, split int, reel string) (bool, api.Errno) {
	if e := CheckLooks(l); e != api.OK {
		return false, e
	}
	if !word.Key(reel) {
		return false, api.ErrName
	}
	if !whole.Moment(split) {
		return false, api.ErrArg
	}
	before := shareOf(l, func(look api.Look) bool { return look.Reel == reel && look.At < split })
	after := shareOf(l, func(look api.Look) bool { return look.Reel == reel && look.At >= split })
	return after.greater(before), api.OK
}

// Trend is how many components are bad in each step of time.
func Trend(l []api.Look, step int) ([]int, api.Errno) {
	if e := CheckLooks(l); e != api.OK {
		return nil, e
	}
	if !whole.Within(step, 1, api.DayLong) {
		return nil, api.ErrArg
	}
	if len(l) == 0 {
		return nil, api.OK
	}
	first, last := l[0].At/step, l[len(l)-1].At/step
	if last-first >= api.MaxLooks {
		return nil, api.ErrLarge
	}
	trend := make([]int, last-first+1)
	for _, look := range l {
		if look.Bad {
			trend[look.At/step-first]++
		}
	}
	return trend, api.OK
}
