package part_test

import (
	"math"
	"math/rand"
	"slices"
	"strings"
	"testing"
	"time"

	"reelfeeder/api"
	"reelfeeder/part"
)

const hour = api.HourLong

// moment is of a word like "10h1ms".
func moment(word string) int {
	d, err := time.ParseDuration(word)
	if err != nil {
		panic(err)
	}
	return int(d.Milliseconds())
}

// stays are of words like "f5ms", each of b (bag), f (floor), c (cabinet) or o (oven) and a moment.
func stays(words string) []api.Stay {
	var l []api.Stay
	for w := range strings.FieldsSeq(words) {
		l = append(l, api.Stay{Place: 1 + strings.Index("bfco", w[:1]), From: moment(w[1:])})
	}
	return l
}

// level is a part of a level that is baked for 8 hours.
func level(n int) api.Part { return api.Part{Key: "p", Package: "q", Level: n, Bake: 8 * hour} }

func TestLife(t *testing.T) {
	for n, hours := range map[int]int{2: 8_760, 3: 168, 4: 72, 5: 24, 6: 6} {
		is(t, "level", three(part.Life(n)), list{hours * hour, true, api.OK})
	}
	is(t, "unlimited", three(part.Life(1)), list{0, false, api.OK})
	for _, n := range []int{0, 7, -1, math.MinInt, math.MaxInt} {
		is(t, "no level", three(part.Life(n)), list{0, false, api.ErrArg})
	}
}

// manyStays are so many stays on the floor.
func manyStays(n int) []api.Stay {
	var l []api.Stay
	for i := range n {
		l = append(l, api.Stay{Place: api.PlaceFloor, From: i})
	}
	return l
}

func TestCheckStays(t *testing.T) {
	bad := manyStays(api.MaxStays + 1)
	bad[0].Place = 0
	for _, c := range []struct {
		what string
		l    []api.Stay
		want api.Errno
	}{
		{"none", nil, api.ErrNone},
		{"empty", []api.Stay{}, api.ErrNone},
		{"each place", stays("b0 f1ms c2ms o3ms"), api.OK},
		{"most", manyStays(api.MaxStays), api.OK},
		{"too many", bad, api.ErrLarge},
		{"place 0", []api.Stay{{Place: 0, From: 1}}, api.ErrKind},
		{"place 5", []api.Stay{{Place: 5, From: 1}}, api.ErrKind},
		{"place below 0", []api.Stay{{Place: math.MinInt, From: 1}}, api.ErrKind},
		{"before 0", []api.Stay{{Place: 1, From: -1}}, api.ErrArg},
		{"at the last moment", []api.Stay{{Place: 1, From: api.End - 1}}, api.OK},
		{"at the end", []api.Stay{{Place: 1, From: api.End}}, api.ErrArg},
		{"after the end", []api.Stay{{Place: 1, From: math.MaxInt}}, api.ErrArg},
		{"at the same moment", stays("b5ms f5ms"), api.ErrOrder},
		{"falling", stays("b5ms f4ms"), api.ErrOrder},
		{"the same place again", stays("f5ms f6ms"), api.OK},
		{"kind before number", []api.Stay{{Place: 0, From: -1}}, api.ErrKind},
		{"number before order", []api.Stay{{Place: 1, From: 5}, {Place: 1, From: -1}}, api.ErrArg},
		{"the earlier stay first", []api.Stay{{Place: 1, From: 5}, {Place: 1, From: 5}, {Place: 0}}, api.ErrOrder},
	} {
		is(t, c.what, part.CheckStays(c.l), c.want)
	}
}

func TestExposed(t *testing.T) {
	for _, c := range []struct {
		what  string
		p     api.Part
		stays string
		want  string // moments and exposures
	}{
		{"before the first stay", level(4), "f10h", "0=0 9h=0 10h=0 10h1ms=1ms"},
		{"on the floor", level(4), "f0", "0=0 1ms=1ms 100h=100h"},
		{"on the floor again", level(4), "f0 f5h", "5h=5h 6h=6h"},
		{"in a bag", level(4), "b0", "0=0 100h=0"},
		{"in a bag for a while", level(4), "f0 b3h f10h", "3h=3h 9h=3h 10h=3h 11h=4h"},
		{"baked", level(4), "f0 o20h f40h", "20h=20h 27h59m59s999ms=20h 28h=0 40h=0 41h=1h"},
		{"baked just long enough", level(4), "f0 o20h f28h", "27h59m59s999ms=20h 28h=0 29h=1h"},
		{"baked too short", level(4), "f0 o20h f27h59m59s999ms", "27h=20h 27h59m59s999ms=20h 28h=20h1ms"},
		{"baked twice too short", level(4), "f0 o20h o27h f34h", "28h=20h 34h=20h 35h=21h"},
		{"baked too short, then long enough", level(4), "f0 o20h o27h f36h", "34h=20h 35h=0 36h=0 37h=1h"},
		{"not baked at all", api.Part{Key: "p", Package: "q", Level: 4}, "f0 o20h f20h1ms", "19h=19h 20h=0 20h1ms=0 20h3ms=2ms"},
		{"baked at level 1", level(1), "f0 o20h", "20h=20h 28h=0"},
		{"baked at level 6", level(6), "f0 o20h", "20h=20h 28h=0"},
		{"in a cabinet", level(4), "f0 c10h", "10h=10h 59h59m59s999ms=10h 60h=0 70h=0"},
		{"in a cabinet just long enough", level(4), "f0 c10h f60h", "60h=0 61h=1h"},
		{"in a cabinet too short", level(4), "f0 c10h f59h59m59s999ms", "59h59m59s999ms=10h 60h=10h1ms"},
		{"in two cabinets", level(4), "f0 c10h c40h f80h", "60h=10h 80h=10h 81h=11h"},
		{"in a cabinet at level 1", level(1), "f0 c1h", "5h59m59s999ms=1h 6h=0"},
		{"in a cabinet at level 2", level(2), "f0 c1h", "5h59m59s999ms=1h 6h=0"},
		{"in a cabinet at level 3", level(3), "f0 c1h", "5h59m59s999ms=1h 6h=0"},
		{"in a cabinet at level 5", level(5), "f0 c1h", "6h=1h 10h59m59s999ms=1h 11h=0"},
		{"in a cabinet at level 6", level(6), "f0 c1h", "6h=1h 11h=1h 1000h=1h"},
		{"in a cabinet after 12 hours", level(4), "f0 c12h", "71h59m59s999ms=12h 72h=0"},
		{"in a cabinet after more than 12 hours", level(4), "f0 c12h1ms", "72h5ms=12h1ms 72h6ms=12h1ms 1000h=12h1ms"},
		{"in a cabinet after 12 hours at level 5", level(5), "f0 c12h", "131h=12h 131h59m59s999ms=12h 132h=0"},
		{"in a cabinet after more than 12 hours at level 5", level(5), "f0 c12h1ms", "1000h=12h1ms"},
		{"in a cabinet first", level(4), "c0 f10h", "0=0 10h=0 11h=1h"},
		{"12 hours in two parts", level(4), "f0 b7h f10h c15h", "15h=12h 74h59m59s999ms=12h 75h=0"},
		{"more in two parts", level(4), "f0 b7h f10h c15h1ms", "75h6ms=12h1ms"},
		{"dry, exposed, dry", level(4), "f0 c2h f12h c13h f18h", "12h=0 13h=1h 18h=0 20h=2h"},
	} {
		l := stays(c.stays)
		for w := range strings.FieldsSeq(c.want) {
			at, exposure, _ := strings.Cut(w, "=")
			is(t, c.what+" at "+at, two(part.Exposed(c.p, l, moment(at))), list{moment(exposure), api.OK})
		}
	}
	is(t, "last moment", two(part.Exposed(level(1), stays("f0"), api.End-1)), list{api.End - 1, api.OK})
	is(t, "last stay", two(part.Exposed(level(1), []api.Stay{{Place: api.PlaceFloor, From: api.End - 1}}, api.End-1)), list{0, api.OK})
	for _, at := range []int{-1, api.End, math.MinInt, math.MaxInt} {
		is(t, "no moment", two(part.Exposed(level(1), stays("f0"), at)), list{0, api.ErrArg})
	}
}

func TestLeft(t *testing.T) {
	for _, c := range []struct {
		level    int
		at, want string
	}{
		{4, "0", "72h"}, {4, "1ms", "71h59m59s999ms"}, {4, "72h", "0"}, {4, "72h1ms", "0"}, {4, "900h", "0"},
		{2, "8759h", "1h"}, {3, "100h", "68h"}, {5, "20h", "4h"}, {6, "6h", "0"}, {6, "7h", "0"},
	} {
		is(t, c.at, three(part.Left(level(c.level), stays("f0"), moment(c.at))), list{moment(c.want), true, api.OK})
	}
	example := stays("f0 c10h")
	is(t, "example after 49 hours", three(part.Left(level(4), example, 59*hour)), list{62 * hour, true, api.OK})
	is(t, "example after 50 hours", three(part.Left(level(4), example, 60*hour)), list{72 * hour, true, api.OK})
	is(t, "before the first stay", three(part.Left(level(4), stays("f9h"), 0)), list{72 * hour, true, api.OK})
	is(t, "unlimited", three(part.Left(level(1), stays("f0"), hour)), list{0, false, api.OK})
	for _, at := range []int{-1, api.End} {
		is(t, "no moment", three(part.Left(level(4), stays("f0"), at)), list{0, false, api.ErrArg})
		is(t, "no moment, unlimited", three(part.Left(level(1), stays("f0"), at)), list{0, false, api.ErrArg})
	}
}

func TestUsable(t *testing.T) {
	baked := api.Part{Key: "p", Package: "q", Level: 6}
	for _, c := range []struct {
		what     string
		p        api.Part
		stays    string
		from, to string
		want     bool
	}{
		{"all its life", level(4), "f5ms", "0", "72h5ms", true},
		{"at the end no longer", level(4), "f5ms", "0", "72h6ms", false},
		{"one moment", level(4), "f5ms", "72h5ms", "72h5ms", true},
		{"one moment too late", level(4), "f5ms", "72h6ms", "72h6ms", false},
		{"too late", level(4), "f0", "100h", "200h", false},
		{"before the first stay", level(6), "f50h", "0", "49h", true},
		{"unlimited", level(1), "f0", "0", "90000h", true},
		{"in a bag", level(6), "f0 b6h", "0", "90000h", true},
		{"in a bag too late", level(6), "f0 b6h1ms", "10h", "11h", false},
		{"in between too late", level(6), "f0 o7h", "0", "20h", false},
		{"before it is too late", level(6), "f0 o7h", "0", "6h", true},
		{"until it is baked", level(6), "f0 o7h", "14h59m59s999ms", "20h", false},
		{"from when it is baked", level(6), "f0 o7h", "15h", "20h", true},
		{"to the next floor", level(6), "f0 o7h f15h", "15h", "21h", true},
		{"on the next floor", level(6), "f0 o7h f15h", "15h", "21h1ms", false},
		{"baked at once, in time", baked, "f0 o6h1ms", "0", "20h", true},
		{"baked at once, late", baked, "f0 o6h2ms", "0", "20h", false},
		{"at the start only", level(6), "f0 o7h", "7h", "15h", false},
	} {
		w := api.Window{From: moment(c.from), To: moment(c.to)}
		is(t, c.what, two(part.Usable(c.p, stays(c.stays), w)), list{c.want, api.OK})
	}
	for _, w := range []api.Window{{From: -1, To: 5}, {From: 6, To: 5}, {From: 0, To: -1}, {From: -2, To: -1}, {From: 0, To: api.End}, {From: 0, To: math.MaxInt}, {From: math.MinInt, To: 0}, {From: api.End, To: api.End}} {
		is(t, "no window", two(part.Usable(level(4), stays("b0"), w)), list{false, api.ErrArg})
		is(t, "no window, unlimited", two(part.Usable(level(1), stays("b0"), w)), list{false, api.ErrArg})
	}
	is(t, "all moments", two(part.Usable(level(4), stays("b0"), api.Window{From: 0, To: api.End - 1})), list{true, api.OK})
	is(t, "the last moment", two(part.Usable(level(4), stays("f0"), api.Window{From: api.End - 1, To: api.End - 1})), list{false, api.OK})
}

func TestExpires(t *testing.T) {
	never := "never"
	baked := api.Part{Key: "p", Package: "q", Level: 6}
	for _, c := range []struct {
		what  string
		p     api.Part
		stays string
		want  string
	}{
		{"from the first stay", level(4), "f5ms", "72h6ms"},
		{"level 2", level(2), "f0", "8760h1ms"},
		{"level 3", level(3), "f0", "168h1ms"},
		{"level 5", level(5), "f0", "24h1ms"},
		{"level 6", level(6), "f0", "6h1ms"},
		{"unlimited", level(1), "f0", never},
		{"in a bag", level(6), "b0", never},
		{"in a bag in time", level(6), "f0 b6h", never},
		{"in a bag at that moment", level(6), "f0 b6h1ms", "6h1ms"},
		{"in two stays", level(6), "f0 b5h f10h", "11h1ms"},
		{"on two floors", level(6), "f0 f6h", "6h1ms"},
		{"on two floors, just then", level(6), "f0 f6h1ms", "6h1ms"},
		{"the first time", level(6), "f0 o7h f20h", "6h1ms"},
		{"after the oven", level(6), "f0 o6h f20h", "26h1ms"},
		{"in the oven", level(6), "f0 o6h1ms f20h", "6h1ms"},
		{"baked at once", baked, "f0 o6h1ms", never},
		{"baked too late", baked, "f0 o6h2ms", "6h1ms"},
		{"in a cabinet", level(5), "f0 c2h f22h", "46h1ms"},
		{"too short in a cabinet", level(5), "f0 c2h f21h", "43h1ms"},
	} {
		want := list{0, false, api.OK}
		if c.want != never {
			want = list{moment(c.want), true, api.OK}
		}
		is(t, c.what, three(part.Expires(c.p, stays(c.stays))), want)
	}
	at := func(from int) []api.Stay { return []api.Stay{{Place: api.PlaceFloor, From: from}} }
	is(t, "just before the end", three(part.Expires(level(6), at(api.End-6*hour-2))), list{api.End - 1, true, api.OK})
	is(t, "just not before the end", three(part.Expires(level(6), at(api.End-6*hour-1))), list{0, false, api.OK})
}

// exposure is what chapter 2 says of each single moment, if an hour has so many units of time.
func exposure(p api.Part, l []api.Stay, at, unit int) int {
	last := -1
	for i, s := range l {
		if s.From <= at {
			last = i
		}
	}
	if last < 0 {
		return 0
	}
	s, before := l[last], exposure(p, l[:last], l[last].From, unit)
	lies, factor := at-s.From, 5
	if p.Level == 5 {
		factor = 10
	}
	switch {
	case s.Place == api.PlaceFloor:
		return before + lies
	case s.Place == api.PlaceOven && lies >= p.Bake:
		return 0
	case s.Place == api.PlaceCabinet && p.Level != 6 && before <= 12*unit && lies >= factor*before:
		return 0
	}
	return before
}

// anyStays are a few stays at multiples of a unit of time.
func anyStays(r *rand.Rand, unit int) []api.Stay {
	var l []api.Stay
	from := r.Intn(3)
	for range 1 + r.Intn(8) {
		l = append(l, api.Stay{Place: 1 + r.Intn(4), From: from * unit})
		from += 1 + r.Intn(1+r.Intn(60))
	}
	return l
}

// TestEveryMoment holds exposures against a reckoning for single moments: all milliseconds of short stays, and all hours of long ones.
func TestEveryMoment(t *testing.T) {
	r := rand.New(rand.NewSource(3))
	for range 300 {
		for _, unit := range []int{1, hour} {
			p := api.Part{Key: "p", Package: "q", Level: 1 + r.Intn(6), Bake: r.Intn(12) * unit}
			l := anyStays(r, unit)
			for at := range 400 {
				is(t, "exposed", two(part.Exposed(p, l, at*unit)), list{exposure(p, l, at*unit, hour), api.OK})
			}
		}
	}
}

// TestEveryHour holds Expires and Usable against the exposures at single moments of stays that begin at full hours: an
// exposure is first greater than a life right after a full hour.
func TestEveryHour(t *testing.T) {
	r := rand.New(rand.NewSource(4))
	found := 0
	for range 1000 {
		p := api.Part{Key: "p", Package: "q", Level: 4 + r.Intn(3), Bake: r.Intn(12) * hour}
		l := anyStays(r, hour)
		life, _, _ := part.Life(p.Level)
		var late []bool
		for i := range 600 {
			late = append(late, exposure(p, l, i*hour+1, hour) > life)
		}
		first := slices.Index(late, true)
		want := list{0, false, api.OK}
		if first >= 0 {
			want = list{first*hour + 1, true, api.OK}
			found++
		}
		is(t, "expires", three(part.Expires(p, l)), want)
		for range 20 {
			from := r.Intn(500)
			to := from + r.Intn(100)
			w := api.Window{From: from*hour + 1, To: to*hour + 1}
			is(t, "usable", two(part.Usable(p, l, w)), list{!slices.Contains(late[from:to+1], true), api.OK})
		}
	}
	if found < 100 {
		t.Error("too few parts expire:", found)
	}
}
