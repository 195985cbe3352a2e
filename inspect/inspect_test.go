package inspect_test

import (
	"fmt"
	"math"
	"slices"
	"strconv"
	"strings"
	"testing"

	"reelfeeder/api"
	"reelfeeder/inspect"
)

type list = []any

// is compares values; a nil list is the same as an empty one.
func is(t *testing.T, what string, got, want any) {
	t.Helper()
	if g, w := fmt.Sprintf("%+v", got), fmt.Sprintf("%+v", want); g != w {
		t.Errorf("%s: got %.300s, want %.300s", what, g, w)
	}
}

// two, three and four are the results of a call as a list.
func two[A any](a A, e api.Errno) list                  { return list{a, e} }
func three[A, B any](a A, b B, e api.Errno) list        { return list{a, b, e} }
func four[A, B, C any](a A, b B, c C, e api.Errno) list { return list{a, b, c, e} }

func keys(names ...string) []string { return names }

// outside are numbers that are not from 0 to most.
func outside(most int) []int { return []int{-1, most + 1, math.MinInt, math.MaxInt} }

// changed are looks of which one is changed.
func changed(l []api.Look, i int, change func(*api.Look)) []api.Look {
	l = slices.Clone(l)
	change(&l[i])
	return l
}

// long is the longest key.
var long = strings.Repeat("k", api.MaxName)

// badKeys are no keys.
var badKeys = []string{"", "A", "7", "-a", "a b", "a\n", " ", "é", "\xff", long + "k"}

// looks are those of words, with a moment, a board, a component, what it is, and perhaps what placed it:
// "3 b c defect, 5 b d good m n r".
func looks(words string) []api.Look {
	var l []api.Look
	for _, s := range strings.Split(words, ", ") {
		w := strings.Fields(s)
		if len(w) == 0 {
			continue
		}
		at, err := strconv.Atoi(w[0])
		if err != nil {
			panic(s)
		}
		k := api.Look{At: at, Board: w[1], Name: w[2], Machine: "m", Nozzle: "n", Reel: "r"}
		switch w[3] {
		case "good":
			k.Verdict = api.VerdictGood
		case "escape":
			k.Verdict, k.Bad = api.VerdictGood, true
		case "false":
			k.Verdict = api.VerdictShifted
		case "defect":
			k.Verdict, k.Bad = api.VerdictMissing, true
		default:
			panic(s)
		}
		if len(w) > 4 {
			k.Machine, k.Nozzle, k.Reel = w[4], w[5], w[6]
		}
		l = append(l, k)
	}
	return l
}

// pairs are those of words: "f p, g q".
func pairs(words string) []api.Pair {
	var l []api.Pair
	for _, s := range strings.Split(words, ", ") {
		if name, value, ok := strings.Cut(s, " "); ok {
			l = append(l, api.Pair{Name: name, Value: value})
		}
	}
	return l
}

// many are good looks at component c of so many boards, a millisecond after each other.
func many(boards int) []api.Look {
	l := make([]api.Look, boards)
	for i := range l {
		l[i] = api.Look{At: i, Board: fmt.Sprintf("b%06d", i), Name: "c", Verdict: api.VerdictGood, Machine: "m", Nozzle: "n", Reel: "r"}
	}
	return l
}

// TestCheckLooks holds the errors of P7.1 for lists of looks, and their order.
func TestCheckLooks(t *testing.T) {
	for _, c := range []struct {
		what string
		l    []api.Look
		want api.Errno
	}{
		{"none", nil, api.OK},
		{"one", looks("0 b c good"), api.OK},
		{"the last moment", looks(fmt.Sprint(api.End-1, " b c good")), api.OK},
		{"the same names for all", looks("0 a a good a a a"), api.OK},
		{"rising moments", looks("1 b c good, 2 a c good, 3 a b good"), api.OK},
		{"rising boards", looks("1 a d good, 1 b c good"), api.OK},
		{"rising names", looks("1 a c good, 1 a d good"), api.OK},
		{"the same name on other boards", looks("1 a c good, 1 b c good, 2 d c good"), api.OK},
		{"bytes in order", looks("1 a-1 c good, 1 a1 c good, 1 a_1 c good"), api.OK},
		{"bytes out of order", looks("1 a1 c good, 1 a-1 c good"), api.ErrOrder},
		{"falling moments", looks("2 a c good, 1 b d good"), api.ErrOrder},
		{"falling boards", looks("1 b c good, 1 a d good"), api.ErrOrder},
		{"falling names", looks("1 a d good, 1 a c good"), api.ErrOrder},
		{"falling later", looks("1 a c good, 3 b c good, 2 d c good"), api.ErrOrder},
		{"equal ones", looks("1 a c good, 1 a c good"), api.ErrOrder},
		{"equal but for the verdict", looks("1 a c good, 1 a c defect"), api.ErrOrder},
		{"twice", looks("1 a c good, 2 a c good"), api.ErrTwice},
		{"twice, and others between", looks("1 a c good, 2 a d good, 2 b c good, 3 a c defect"), api.ErrTwice},
		{"the last error before twice", looks("1 a c good, 2 a c good, 1 a d good"), api.ErrOrder},
		{"a later name before twice", looks("1 a c good, 2 a c good, 3 A d good"), api.ErrName},
		{"order before the next one's name", looks("2 a c good, 1 b c good, 3 B c good"), api.ErrOrder},
		{"moment before the next one's name", looks("-1 a c good, 3 B c good"), api.ErrArg},
		{"as many as there can be", many(api.MaxLooks), api.OK},
		{"too many", many(api.MaxLooks + 1), api.ErrLarge},
		{"too many before their errors", make([]api.Look, api.MaxLooks+1), api.ErrLarge},
		{"much too many", make([]api.Look, 200_000), api.ErrLarge},
	} {
		is(t, c.what, inspect.CheckLooks(c.l), c.want)
	}
	first := many(api.MaxLooks)
	last := changed(first, api.MaxLooks-1, func(k *api.Look) { k.Board = first[0].Board })
	is(t, "the first and the last one", inspect.CheckLooks(last), api.ErrTwice)
}

// fields are the names of a look.
func fields(k *api.Look) []*string {
	return []*string{&k.Board, &k.Name, &k.Machine, &k.Nozzle, &k.Reel}
}

// TestCheckLook holds the errors of P7.1 for a look: what is wrong with it, and the errors that come later.
func TestCheckLook(t *testing.T) {
	good := looks("5 b c good")
	check := func(what string, want api.Errno, change func(*api.Look)) {
		t.Helper()
		is(t, what, inspect.CheckLooks(changed(good, 0, change)), want)
		after := append(looks("7 b d good"), changed(good, 0, change)...) // out of order
		if want == api.OK {
			want = api.ErrOrder
		}
		is(t, what+", out of order", inspect.CheckLooks(after), want)
	}
	for i := range fields(&api.Look{}) {
		check("the longest key", api.OK, func(k *api.Look) { *fields(k)[i] = long })
		for _, key := range badKeys {
			check(fmt.Sprintf("%q", key), api.ErrName, func(k *api.Look) { *fields(k)[i], k.At, k.Verdict = key, -1, 0 })
			check(fmt.Sprintf("%q", key), api.ErrName, func(k *api.Look) { *fields(k)[i] = key })
		}
	}
	for _, at := range outside(api.End - 1) {
		check(fmt.Sprint(at), api.ErrArg, func(k *api.Look) { k.At, k.Verdict = at, 0 })
		is(t, "moment", inspect.CheckLooks(changed(good, 0, func(k *api.Look) { k.At = at })), api.ErrArg)
	}
	for verdict := api.VerdictGood; verdict <= api.VerdictSoldered; verdict++ {
		check("verdict", api.OK, func(k *api.Look) { k.Verdict = verdict })
		check("verdict", api.OK, func(k *api.Look) { k.Verdict, k.Bad = verdict, true })
	}
	for _, verdict := range []int{0, 6, -1, math.MinInt, math.MaxInt} {
		check("verdict", api.ErrKind, func(k *api.Look) { k.Verdict = verdict })
	}
}

func TestMerge(t *testing.T) {
	for _, c := range []struct{ a, b, want string }{
		{"", "", ""},
		{"1 b c good", "", "1 b c good"},
		{"1 b c good", "1 b c good", "1 b c good"},
		{"1 b c good", "2 b d good", "1 b c good, 2 b d good"},
		{"2 b c good", "1 b d good", "1 b d good, 2 b c good"},
		{"1 b c good", "1 a d good", "1 a d good, 1 b c good"},
		{"1 b d good", "1 b c defect", "1 b c defect, 1 b d good"},
		{"1 a c good, 5 e c good", "3 b c good, 4 d c good", "1 a c good, 3 b c good, 4 d c good, 5 e c good"},
		{"1 a c good, 3 b c good", "1 a c good, 2 d c false, 3 b c good", "1 a c good, 2 d c false, 3 b c good"},
		{"1 a c good, 2 b c escape x y z", "2 b c escape x y z, 3 d c good", "1 a c good, 2 b c escape x y z, 3 d c good"},
	} {
		for _, l := range [][2]string{{c.a, c.b}, {c.b, c.a}} {
			is(t, fmt.Sprint(l), two(inspect.Merge(looks(l[0]), looks(l[1]))), list{looks(c.want), api.OK})
		}
	}
}

// TestMergeErrors holds the errors of Merge, and their order.
func TestMergeErrors(t *testing.T) {
	check := func(what string, a, b []api.Look, want api.Errno) {
		t.Helper()
		is(t, what, two(inspect.Merge(a, b)), list{looks(""), want})
	}
	l := looks("1 a c good, 2 b c good, 3 d c good")
	for what, change := range map[string]func(*api.Look){
		"At":      func(k *api.Look) { k.At++ },
		"Verdict": func(k *api.Look) { k.Verdict = api.VerdictMissing },
		"Bad":     func(k *api.Look) { k.Bad = true },
		"Machine": func(k *api.Look) { k.Machine = "x" },
		"Nozzle":  func(k *api.Look) { k.Nozzle = "x" },
		"Reel":    func(k *api.Look) { k.Reel = "x" },
	} {
		for i := range l {
			other := changed(l, i, change)
			if inspect.CheckLooks(other) == api.OK {
				check("another "+what, l, other, api.ErrConflict)
				check("another "+what, other, l, api.ErrConflict)
				check("another "+what+" alone", l, other[i:i+1], api.ErrConflict)
			}
		}
	}
	half, full := many(api.MaxLooks/2), many(api.MaxLooks)
	one := looks("1 z c good")
	check("too many", full, one, api.ErrLarge)
	check("too many", one, full, api.ErrLarge)
	check("too many", append(one[:0:0], full[:api.MaxLooks-1]...), looks("1 y c good, 1 z c good"), api.ErrLarge)
	check("conflict before too many", full, append(changed(full[:1], 0, func(k *api.Look) { k.Bad = true }), one...), api.ErrConflict)
	is(t, "just not too many", two(inspect.Merge(half, full)), list{full, api.OK})
	is(t, "just not too many", two(inspect.Merge(full[1:], full[:1])), list{full, api.OK})
	is(t, "all the same", two(inspect.Merge(full, full)), list{full, api.OK})
	late, none := looks("2 a c good, 1 a d good"), looks("1 A c good")
	check("first list", late, none, api.ErrOrder)
	check("first list", none, late, api.ErrName)
	check("first list", none, nil, api.ErrName)
	check("second list", nil, late, api.ErrOrder)
	check("second list before conflict", l, changed(l, 0, func(k *api.Look) { k.Bad, k.Verdict = true, 0 }), api.ErrKind)
	check("twice in a list", nil, looks("1 a c good, 2 a c good"), api.ErrTwice)
	check("a list that is too long", l, many(api.MaxLooks+1), api.ErrLarge)
}
