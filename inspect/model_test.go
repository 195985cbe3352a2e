package inspect_test

import (
	"fmt"
	"math/big"
	"math/rand"
	"slices"
	"strings"
	"testing"

	"reelfeeder/api"
	"reelfeeder/inspect"
)

// anyLooks are valid looks at components of a few boards.
func anyLooks(r *rand.Rand) []api.Look {
	var l []api.Look
	rate := r.Intn(4) // how many are bad
	for _, board := range []string{"a", "a-1", "b", "d", "e"} {
		for _, name := range []string{"c", "c1", "c_1"} {
			if r.Intn(4) == 0 {
				continue
			}
			l = append(l, api.Look{
				At: r.Intn(12), Board: board, Name: name, Verdict: 1 + r.Intn(5), Bad: r.Intn(4) < rate,
				Machine: fmt.Sprint("m", r.Intn(3)), Nozzle: fmt.Sprint("x", r.Intn(4)), Reel: fmt.Sprint("x", r.Intn(4)),
			})
			if r.Intn(2) == 0 {
				l[len(l)-1].Verdict = api.VerdictGood
			}
		}
	}
	return inOrder(l)
}

// inOrder are looks by moment, board and component: these are strings here that compare as the three do.
func inOrder(l []api.Look) []api.Look {
	key := func(k api.Look) string { return fmt.Sprintf("%09d\x00%s\x00%s", k.At, k.Board, k.Name) }
	slices.SortFunc(l, func(a, b api.Look) int { return strings.Compare(key(a), key(b)) })
	return l
}

// chosen are the looks that are so.
func chosen(l []api.Look, so func(api.Look) bool) []api.Look {
	return slices.DeleteFunc(slices.Clone(l), func(k api.Look) bool { return !so(k) })
}

func isBad(k api.Look) bool { return k.Bad }

// part is the part of looks at bad components.
func part(l []api.Look) *big.Rat {
	return big.NewRat(int64(len(chosen(l, isBad))), int64(len(l)))
}

// distinct are the different names that looks have, rising.
func distinct(l []api.Look, name func(api.Look) string) []string {
	var names []string
	for _, k := range l {
		names = append(names, name(k))
	}
	slices.Sort(names)
	return slices.Compact(names)
}

func fraction(r *big.Rat) api.Fraction {
	return api.Fraction{Num: int(r.Num().Int64()), Den: int(r.Denom().Int64())}
}

func board(k api.Look) string   { return k.Board }
func name(k api.Look) string    { return k.Name }
func machine(k api.Look) string { return k.Machine }

// TestEveryCount holds P7.2 against lists of the looks that are counted.
func TestEveryCount(t *testing.T) {
	r := rand.New(rand.NewSource(1))
	for range 1000 {
		l := anyLooks(r)
		what := fmt.Sprint(l)
		of := func(call, bad bool) []api.Look {
			return chosen(l, func(k api.Look) bool { return (k.Verdict > 1) == call && k.Bad == bad })
		}
		defects, wrong, missed := len(of(true, true)), len(of(true, false)), of(false, true)
		is(t, "counts "+what, two(inspect.Counts(l)), list{counts(defects, wrong, len(missed), len(of(false, false))), api.OK})
		if len(l) > 0 {
			million := new(big.Rat).Mul(part(l), big.NewRat(1_000_000, 1))
			is(t, "million "+what, two(inspect.Million(l)), list{fraction(million), api.OK})
		}
		if defects+wrong > 0 {
			is(t, "false calls "+what, two(inspect.FalseCalls(l)), list{fraction(big.NewRat(int64(wrong), int64(defects+wrong))), api.OK})
		}
		var escapes []api.Pair
		for _, b := range distinct(missed, board) {
			for _, n := range distinct(missed, name) {
				if slices.ContainsFunc(missed, func(k api.Look) bool { return k.Board == b && k.Name == n }) {
					escapes = append(escapes, api.Pair{Name: b, Value: n})
				}
			}
		}
		is(t, "escapes "+what, two(inspect.Escapes(l)), list{escapes, api.OK})
		worse := distinct(chosen(l, isBad), board)
		good := slices.DeleteFunc(distinct(l, board), func(b string) bool { return slices.Contains(worse, b) })
		is(t, "good boards "+what, two(inspect.GoodBoards(l)), list{good, api.OK})
	}
}

// TestEveryCause holds Positions, Rows, ByMachine and Trend against lists of the looks that are counted.
func TestEveryCause(t *testing.T) {
	r := rand.New(rand.NewSource(2))
	for range 1000 {
		l := anyLooks(r)
		what := fmt.Sprint(l)
		least, step := 1+r.Intn(4), 1+r.Intn(5)
		var positions []string
		var rows, machines []api.Pair
		for _, n := range distinct(l, name) {
			own := chosen(l, func(k api.Look) bool { return k.Name == n })
			if len(chosen(own, isBad)) >= least {
				positions = append(positions, n)
			}
		}
		for long := len(l); long >= least; long-- { // the greatest first
			for _, n := range distinct(l, name) {
				if longestRow(l, n) == long {
					rows = append(rows, api.Pair{Name: n, Value: fmt.Sprint(long)})
				}
			}
		}
		for _, m := range distinct(l, machine) {
			own := chosen(l, func(k api.Look) bool { return k.Machine == m })
			machines = append(machines, api.Pair{Name: m, Value: fmt.Sprintf("%d/%d", len(chosen(own, isBad)), len(own))})
		}
		is(t, fmt.Sprint("positions ", least, what), two(inspect.Positions(l, least)), list{positions, api.OK})
		is(t, fmt.Sprint("rows ", least, what), two(inspect.Rows(l, least)), list{rows, api.OK})
		is(t, "machines "+what, two(inspect.ByMachine(l)), list{machines, api.OK})
		is(t, fmt.Sprint("trend ", step, what), two(inspect.Trend(l, step)), list{trend(l, step), api.OK})
	}
}

// longestRow is on how many successive boards a component is bad: all rows are tried.
func longestRow(l []api.Look, n string) int {
	own := chosen(l, func(k api.Look) bool { return k.Name == n })
	longest := 0
	for from := range own {
		for to := from + 1; to <= len(own); to++ {
			if len(chosen(own[from:to], isBad)) == to-from {
				longest = max(longest, to-from)
			}
		}
	}
	return longest
}

// trend is how many are bad from each multiple of step on, up to the next one.
func trend(l []api.Look, step int) []int {
	var all []int
	for from := 0; len(l) > 0 && from <= l[len(l)-1].At; from += step {
		if from+step > l[0].At {
			all = append(all, len(chosen(l, func(k api.Look) bool { return k.Bad && from <= k.At && k.At < from+step })))
		}
	}
	return all
}

// TestEverySuspect holds Suspect and Worse against fractions of the looks of each nozzle and each reel.
func TestEverySuspect(t *testing.T) {
	r := rand.New(rand.NewSource(3))
	found, worse := 0, 0
	for range 2000 {
		l := anyLooks(r)
		what := fmt.Sprint(l)
		least, split := 1+r.Intn(4), r.Intn(14)
		suspect, most := "", new(big.Rat)
		if len(l) > 0 {
			most = part(l)
		}
		for _, kind := range []string{"nozzle ", "reel "} {
			for i := range 4 {
				key := fmt.Sprint("x", i)
				own := chosen(l, func(k api.Look) bool { return kind == "nozzle " && k.Nozzle == key || kind == "reel " && k.Reel == key })
				if len(own) >= least && part(own).Cmp(most) > 0 {
					suspect, most = kind+key, part(own)
				}
			}
		}
		if suspect == "" {
			is(t, fmt.Sprint("suspect ", least, what), four(inspect.Suspect(l, least)), list{"", api.Fraction{}, false, api.OK})
		} else {
			found++
			is(t, fmt.Sprint("suspect ", least, what), four(inspect.Suspect(l, least)), list{suspect, fraction(most), true, api.OK})
		}
		before := chosen(l, func(k api.Look) bool { return k.Reel == "x1" && k.At < split })
		after := chosen(l, func(k api.Look) bool { return k.Reel == "x1" && k.At >= split })
		grew := len(before) > 0 && len(after) > 0 && part(after).Cmp(part(before)) > 0
		if grew {
			worse++
		}
		is(t, fmt.Sprint("worse ", split, what), two(inspect.Worse(l, split, "x1")), list{grew, api.OK})
	}
	if found < 500 || worse < 100 {
		t.Error("too few suspects, or too few reels that got worse:", found, worse)
	}
}

// someOf is each look of a list, or not.
func someOf(r *rand.Rand, l []api.Look) []api.Look {
	return chosen(l, func(api.Look) bool { return r.Intn(2) == 0 })
}

func merge(t *testing.T, a, b []api.Look) []api.Look {
	t.Helper()
	l, e := inspect.Merge(a, b)
	is(t, "merge", list{e, inspect.CheckLooks(l)}, list{api.OK, api.OK})
	return l
}

// TestEveryMerge holds what follows: merged lists do not depend on the order, nor on what comes twice.
func TestEveryMerge(t *testing.T) {
	r := rand.New(rand.NewSource(4))
	conflicts := 0
	for range 1000 {
		l := anyLooks(r)
		a, b, c := someOf(r, l), someOf(r, l), someOf(r, l)
		all := merge(t, merge(t, a, b), c)
		want := chosen(l, func(k api.Look) bool { return slices.Contains(slices.Concat(a, b, c), k) })
		is(t, "all", all, want)
		is(t, "another order", merge(t, c, merge(t, b, a)), want)
		is(t, "once more", merge(t, all, b), want)
		is(t, "the same", merge(t, all, all), want)
		other := anyLooks(r)
		differ := slices.ContainsFunc(l, func(k api.Look) bool {
			return slices.ContainsFunc(other, func(o api.Look) bool { return k.Board == o.Board && k.Name == o.Name && k != o })
		})
		if _, e := inspect.Merge(l, other); differ != (e == api.ErrConflict) {
			t.Errorf("merge of %v and %v: %v", l, other, e)
		}
		if differ {
			conflicts++
		}
	}
	if conflicts < 500 {
		t.Error("too few conflicts:", conflicts)
	}
}

// TestSums holds what follows: each component is counted once, and the bad ones of all machines add up.
func TestSums(t *testing.T) {
	r := rand.New(rand.NewSource(5))
	for range 500 {
		l := anyLooks(r)
		sum, of := 0, map[string]int{}
		pairs, _ := inspect.Counts(l)
		for _, p := range pairs {
			n := 0
			fmt.Sscan(p.Value, &n)
			sum += n
			of[p.Name] = n
		}
		is(t, "all", sum, len(l))
		allBad, all := 0, 0
		machines, _ := inspect.ByMachine(l)
		for _, p := range machines {
			var bad, many int
			fmt.Sscanf(p.Value, "%d/%d", &bad, &many)
			allBad, all = allBad+bad, all+many
		}
		is(t, "machines", list{allBad, all}, list{of["defects"] + of["escapes"], len(l)})
		inSteps := 0
		steps, _ := inspect.Trend(l, 1+r.Intn(5))
		for _, n := range steps {
			inSteps += n
		}
		is(t, "steps", inSteps, allBad)
	}
}
