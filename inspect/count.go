package inspect

import (
	"cmp"
	"slices"
	"strconv"
	"strings"

	"reelfeeder/api"
	"reelfeeder/whole"
)

func called(look api.Look) bool    { return look.Verdict != api.VerdictGood }
func bad(look api.Look) bool       { return look.Bad }
func defect(look api.Look) bool    { return called(look) && look.Bad }
func falseCall(look api.Look) bool { return called(look) && !look.Bad }
func escape(look api.Look) bool    { return !called(look) && look.Bad }

// count is how many looks are so.
func count(l []api.Look, so func(api.Look) bool) int {
	many := 0
	for _, look := range l {
		if so(look) {
			many++
		}
	}
	return many
}

// Counts are how many components are defects, false calls, escapes and good.
func Counts(l []api.Look) ([]api.Pair, api.Errno) {
	if e := CheckLooks(l); e != api.OK {
		return nil, e
	}
	var counts []api.Pair
	rest := len(l)
	add := func(name string, many int) {
		counts = append(counts, api.Pair{Name: name, Value: strconv.Itoa(many)})
		rest -= many
	}
	add("defects", count(l, defect))
	add("false", count(l, falseCall))
	add("escapes", count(l, escape))
	add("good", rest)
	return counts, api.OK
}

// Million is how many of a million components are bad.
func Million(l []api.Look) (api.Fraction, api.Errno) {
	if e := CheckLooks(l); e != api.OK {
		return api.Fraction{}, e
	}
	if len(l) == 0 {
		return api.Fraction{}, api.ErrNone
	}
	return whole.Lowest(count(l, bad)*1_000_000, len(l)), api.OK
}

// FalseCalls is the number of false calls divided by the number of calls.
func FalseCalls(l []api.Look) (api.Fraction, api.Errno) {
	if e := CheckLooks(l); e != api.OK {
		return api.Fraction{}, e
	}
	calls := count(l, called)
	if calls == 0 {
		return api.Fraction{}, api.ErrNone
	}
	return whole.Lowest(count(l, falseCall), calls), api.OK
}

// Escapes are those of all boards.
func Escapes(l []api.Look) ([]api.Pair, api.Errno) {
	if e := CheckLooks(l); e != api.OK {
		return nil, e
	}
	var escapes []api.Pair
	for _, look := range l {
		if escape(look) {
			escapes = append(escapes, api.Pair{Name: look.Board, Value: look.Name})
		}
	}
	slices.SortFunc(escapes, func(a, b api.Pair) int {
		return cmp.Or(strings.Compare(a.Name, b.Name), strings.Compare(a.Value, b.Value))
	})
	return escapes, api.OK
}

// GoodBoards are those none of whose components is bad.
func GoodBoards(l []api.Look) ([]string, api.Errno) {
	if e := CheckLooks(l); e != api.OK {
		return nil, e
	}
	boards := shares(l, func(look api.Look) string { return look.Board })
	return those(boards, func(s share) bool { return s.bad == 0 }), api.OK
}
