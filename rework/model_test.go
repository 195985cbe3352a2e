package rework_test

import (
	"cmp"
	"fmt"
	"math/big"
	"math/rand"
	"slices"
	"testing"

	"reelfeeder/api"
	"reelfeeder/rework"
)

// The names that occur in steps by chance.
var (
	someBoards     = keys("b", "b-1", "b1", "c")
	someComponents = keys("r", "r-1", "r1")
)

// anyRules are rules that refuse many steps.
func anyRules(r *rand.Rand) api.Rules { return rules(r.Intn(7), r.Intn(4)) }

// anySteps are so many steps of few boards and components, some of them at the same moment.
func anySteps(r *rand.Rand, many int) []api.Step {
	often := []int{1, 1, 1, 2, 2, 2, 2, 2, 3, 4, 4, 4, 4, 4, 4, 5, 6, 6} // kinds
	var l []api.Step
	at := 0
	for range many {
		at += r.Intn(3)
		s := api.Step{At: at, Board: someBoards[r.Intn(len(someBoards))], Kind: often[r.Intn(len(often))]}
		if kinds[s.Kind] == "fail" || kinds[s.Kind] == "repair" {
			s.Component = someComponents[r.Intn(len(someComponents))]
		}
		l = append(l, s)
	}
	return l
}

// past is the steps of a board that were not refused, from which everything else is found anew.
type past []api.Step

// count is how many steps there are of some kinds; of a component, if there is one.
func (p past) count(component string, kind ...int) int {
	many := 0
	for _, s := range p {
		if slices.Contains(kind, s.Kind) && (component == "" || s.Component == component) {
			many++
		}
	}
	return many
}

func (p past) heats() int { return p.count("", api.StepReflow, api.StepRepair) }

func (p past) repairs(component string) int { return p.count(component, api.StepRepair) }

// open are the components that failed more often than they were repaired.
func (p past) open() []string {
	var l []string
	for _, c := range someComponents {
		if p.count(c, api.StepFail) > p.repairs(c) {
			l = append(l, c)
		}
	}
	return l
}

func (p past) state() int {
	if len(p) == 0 {
		return api.BoardNew
	}
	switch p[len(p)-1].Kind {
	case api.StepPass:
		return api.BoardPassed
	case api.StepScrap:
		return api.BoardScrapped
	case api.StepShip:
		return api.BoardShipped
	}
	if len(p.open()) > 0 {
		return api.BoardFailed
	}
	return api.BoardSoldered
}

// since is At of the first of the last steps after which the state was the same.
func (p past) since() int {
	from := len(p)
	for from > 0 && p[:from].state() == p.state() {
		from--
	}
	if from == len(p) {
		return 0
	}
	return p[from].At
}

// why is the error for which a step is refused.
func (p past) why(r api.Rules, s api.Step) api.Errno {
	possible := map[int][]int{
		api.StepReflow: {api.BoardNew, api.BoardSoldered},
		api.StepFail:   {api.BoardSoldered, api.BoardFailed},
		api.StepPass:   {api.BoardSoldered},
		api.StepRepair: {api.BoardFailed},
		api.StepScrap:  {api.BoardNew, api.BoardSoldered, api.BoardFailed, api.BoardPassed},
		api.StepShip:   {api.BoardPassed},
	}
	isOpen := slices.Contains(p.open(), s.Component)
	fail, reflow, repair := s.Kind == api.StepFail, s.Kind == api.StepReflow, s.Kind == api.StepRepair
	if !slices.Contains(possible[s.Kind], p.state()) {
		return api.ErrState
	}
	if fail && isOpen {
		return api.ErrTwice
	}
	if repair && !isOpen {
		return api.ErrNone
	}
	if repair && p.repairs(s.Component) == r.Repairs || (repair || reflow) && p.heats() == r.Heats {
		return api.ErrRule
	}
	return api.OK
}

// lost says whether a board stays failed even if all that is open is repaired, one after the other.
func (p past) lost(r api.Rules) bool {
	p = slices.Clone(p)
	for _, c := range p.open() {
		s := api.Step{Kind: api.StepRepair, Component: c}
		if p.why(r, s) == api.OK {
			p = append(p, s)
		}
	}
	return p.state() == api.BoardFailed
}

// world is all boards that have a step.
type world map[string]past

// do does a step, or refuses it.
func (w world) do(r api.Rules, s api.Step) api.Errno {
	p := w[s.Board]
	e := p.why(r, s)
	if e == api.OK {
		p = append(p, s)
	}
	w[s.Board] = p
	return e
}

// those are the boards that are so, sorted.
func (w world) those(so func(past) bool) []string {
	var l []string
	for _, b := range someBoards {
		if p, is := w[b]; is && so(p) {
			l = append(l, b)
		}
	}
	return l
}

// compare holds the questions about a moment against a world.
func compare(t *testing.T, w world, r api.Rules, l []api.Step, at int) {
	what := fmt.Sprint(r, l, at)
	for _, b := range someBoards {
		p := w[b]
		want := api.Condition{State: p.state(), Since: p.since(), Heats: p.heats(), Open: p.open()}
		is(t, "at "+b+what, two(rework.At(r, l, b, at)), list{want, api.OK})
	}
	for state := api.BoardNew; state <= api.BoardShipped; state++ {
		want := w.those(func(p past) bool { return p.state() == state })
		is(t, "boards "+what, two(rework.Boards(r, l, at, state)), list{want, api.OK})
	}
	waiting := w.those(func(p past) bool { return p.state() == api.BoardFailed })
	lost := w.those(func(p past) bool { return p.state() == api.BoardFailed && p.lost(r) })
	slices.SortFunc(waiting, func(a, b string) int { return cmp.Or(w[a].since()-w[b].since(), cmp.Compare(a, b)) })
	is(t, "waiting "+what, two(rework.Waiting(r, l, at)), list{waiting, api.OK})
	is(t, "hopeless "+what, two(rework.Hopeless(r, l, at)), list{lost, api.OK})
}

// TestEveryBoard holds Refused and the questions of P8.3 against boards that are found anew from all their steps.
func TestEveryBoard(t *testing.T) {
	random := rand.New(rand.NewSource(2))
	refusals, hopeless := map[api.Errno]int{}, 0
	for range 500 {
		r, l := anyRules(random), anySteps(random, random.Intn(60))
		w := world{}
		times := map[string]*[6]int{}
		var indices []int
		var why []api.Errno
		for i, s := range l {
			if e := w.do(r, s); e != api.OK {
				indices, why = append(indices, i), append(why, e)
				refusals[e]++
			}
			if i+1 < len(l) && l[i+1].At == s.At {
				continue
			}
			compare(t, w, r, l, s.At)
			hopeless += len(w.those(func(p past) bool { return p.state() == api.BoardFailed && p.lost(r) }))
			next := s.At + 3
			if i+1 < len(l) {
				next = l[i+1].At
			}
			for at := s.At; at < next; at++ { // each millisecond is spent in one state
				for b, p := range w {
					if times[b] == nil {
						times[b] = new([6]int)
					}
					is(t, fmt.Sprint("times ", b, at, r, l), two(rework.Times(r, l, b, at)), list{*times[b], api.OK})
					times[b][p.state()-1]++
				}
			}
		}
		is(t, fmt.Sprint("refused ", r, l), three(rework.Refused(r, l)), list{indices, why, api.OK})
	}
	for _, e := range []api.Errno{api.ErrState, api.ErrRule, api.ErrTwice, api.ErrNone} {
		if refusals[e] < 200 {
			t.Error("too few steps are refused:", e, refusals[e])
		}
	}
	if hopeless < 200 {
		t.Error("too few boards are hopeless:", hopeless)
	}
}

// fraction is a part as FirstPass and Final return it.
func fraction(so, all int) list {
	if all == 0 {
		return list{api.Fraction{}, false, api.OK}
	}
	f := big.NewRat(int64(so), int64(all))
	return list{api.Fraction{Num: int(f.Num().Int64()), Den: int(f.Denom().Int64())}, true, api.OK}
}

// TestEveryCount holds P8.4 against lists of the steps that are not refused.
func TestEveryCount(t *testing.T) {
	random := rand.New(rand.NewSource(3))
	repaired := 0
	for range 5000 {
		r, l := anyRules(random), anySteps(random, random.Intn(60))
		w := world{}
		for _, s := range l {
			w.do(r, s)
		}
		what := fmt.Sprint(r, l)
		is(t, "final "+what, three(rework.Final(r, l)), fraction(
			len(w.those(func(p past) bool { return p.state() == api.BoardShipped })),
			len(w.those(func(p past) bool { return p.state() >= api.BoardScrapped }))))
		is(t, "first pass "+what, three(rework.FirstPass(r, l)), fraction(
			len(w.those(func(p past) bool { return p.inspected() == api.StepPass })),
			len(w.those(func(p past) bool { return p.inspected() > 0 }))))
		var loops, worst []api.Pair
		for _, b := range someBoards {
			if many := w[b].loops(); many > 0 {
				loops = append(loops, api.Pair{Name: b, Value: fmt.Sprint(many)})
				repaired++
			}
		}
		is(t, "loops "+what, two(rework.Loops(r, l)), list{loops, api.OK})
		for many := len(l); many > 0; many-- { // the greatest first
			for _, c := range someComponents {
				all := 0
				for _, p := range w {
					all += p.count(c, api.StepFail)
				}
				if all == many {
					worst = append(worst, api.Pair{Name: c, Value: fmt.Sprint(many)})
				}
			}
		}
		is(t, "worst "+what, two(rework.Worst(r, l)), list{worst, api.OK})
	}
	if repaired < 500 {
		t.Error("too few boards are repaired:", repaired)
	}
}

// inspected is the kind of the first inspection, or 0.
func (p past) inspected() int {
	for _, s := range p {
		if s.Kind == api.StepPass || s.Kind == api.StepFail {
			return s.Kind
		}
	}
	return 0
}

// loops is after how many repairs nothing was open.
func (p past) loops() int {
	many := 0
	for i, s := range p {
		if s.Kind == api.StepRepair && len(p[:i+1].open()) == 0 {
			many++
		}
	}
	return many
}

// TestWhatFollows holds what follows: no board is heated more often than Heats; what is shipped has no open defects,
// and passed; a scrapped or shipped board stays what it is; and what is refused changes nothing.
func TestWhatFollows(t *testing.T) {
	random := rand.New(rand.NewSource(4))
	for range 300 {
		r, l := anyRules(random), anySteps(random, random.Intn(60))
		refused, _, _ := rework.Refused(r, l)
		var done []api.Step
		for i, s := range l {
			if !slices.Contains(refused, i) {
				done = append(done, s)
			}
		}
		for _, b := range someBoards {
			var before api.Condition
			for at := range 130 {
				now, e := rework.At(r, l, b, at)
				is(t, "at", e, api.OK)
				is(t, "without what is refused", two(rework.At(r, done, b, at)), list{now, api.OK})
				if now.Heats > r.Heats {
					t.Error("heated too often:", r, l, b, now)
				}
				if before.State == api.BoardScrapped || before.State == api.BoardShipped {
					is(t, "it stays what it is", now, before)
				}
				if now.State == api.BoardShipped {
					passed := slices.ContainsFunc(done, func(s api.Step) bool { return s.Board == b && s.Kind == api.StepPass })
					is(t, "shipped", list{len(now.Open), passed}, list{0, true})
				}
				before = now
			}
		}
	}
}
