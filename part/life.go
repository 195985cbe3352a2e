package part

import (
	"reelfeeder/api"
	"reelfeeder/whole"
)

// In a dry cabinet parts dry that were exposed only for a short time, and do not take up moisture too quickly.
const (
	longestDried = 12 * api.HourLong
	highestDried = 5 // level
)

// Life is the floor life of a level, in milliseconds.
func Life(level int) (int, bool, api.Errno) {
	if !validLevel(level) {
		return 0, false, api.ErrArg
	}
	hours := [highestLevel + 1]int{2: 8_760, 3: 168, 4: 72, 5: 24, 6: 6}[level]
	return hours * api.HourLong, hours > 0, api.OK
}

// CheckStays validates stays.
func CheckStays(l []api.Stay) api.Errno {
	if len(l) == 0 {
		return api.ErrNone
	}
	if len(l) > api.MaxStays {
		return api.ErrLarge
	}
	for i, s := range l {
		switch {
		case !whole.Within(s.Place, api.PlaceBag, api.PlaceOven):
			return api.ErrKind
		case !whole.Moment(s.From):
			return api.ErrArg
		case i > 0 && s.From <= l[i-1].From:
			return api.ErrOrder
		}
	}
	return api.OK
}

// checkLying validates a part and where it lies.
func checkLying(p api.Part, l []api.Stay) api.Errno {
	if e := CheckCatalogue(api.Catalogue{Parts: []api.Part{p}}); e != api.OK {
		return e
	}
	return CheckStays(l)
}

// phase is a time, not empty, from one moment on and before another one, in which the exposure either stays as it is
// or grows by each millisecond.
type phase struct {
	from, to int
	exposure int // at from
	grows    bool
}

func (f phase) exposed(at int) int {
	if f.grows {
		return f.exposure + at - f.from
	}
	return f.exposure
}

// phases are those of a part from its first stay up to End, in order.
func phases(p api.Part, l []api.Stay) []phase {
	var list []phase
	exposure := 0
	add := func(from, to int, grows bool) {
		if from < to {
			f := phase{from, to, exposure, grows}
			list = append(list, f)
			exposure = f.exposed(to)
		}
	}
	for i, s := range l {
		to := api.End
		if i+1 < len(l) {
			to = l[i+1].From
		}
		wait, dries := drying(p, s.Place, exposure)
		if !dries || wait > to-s.From {
			add(s.From, to, s.Place == api.PlaceFloor)
			continue
		}
		add(s.From, s.From+wait, false)
		exposure = 0
		add(s.From+wait, to, false)
	}
	return list
}

// drying is how long a part has to stay at a place until its exposure is 0; false if it cannot become so there.
func drying(p api.Part, place, exposure int) (int, bool) {
	switch place {
	case api.PlaceOven:
		return p.Bake, true
	case api.PlaceCabinet:
		if exposure > longestDried || p.Level > highestDried {
			return 0, false
		}
		if p.Level == highestDried {
			return 10 * exposure, true
		}
		return 5 * exposure, true
	}
	return 0, false
}

// Exposed is the exposure at a moment.
func Exposed(p api.Part, l []api.Stay, at int) (int, api.Errno) {
	if e := checkLying(p, l); e != api.OK {
		return 0, e
	}
	if !whole.Moment(at) {
		return 0, api.ErrArg
	}
	for _, f := range phases(p, l) {
		if f.from <= at && at < f.to {
			return f.exposed(at), api.OK
		}
	}
	return 0, api.OK
}

// Left is how much of its life a part has left.
func Left(p api.Part, l []api.Stay, at int) (int, bool, api.Errno) {
	exposure, e := Exposed(p, l, at)
	if e != api.OK {
		return 0, false, e
	}
	life, limited, _ := Life(p.Level)
	if !limited {
		return 0, false, api.OK
	}
	return max(life-exposure, 0), true, api.OK
}

// Usable says whether the exposure is at most the life at all moments of a window.
func Usable(p api.Part, l []api.Stay, w api.Window) (bool, api.Errno) {
	if e := checkLying(p, l); e != api.OK {
		return false, e
	}
	if !whole.Within(w.From, 0, w.To) || !whole.Moment(w.To) {
		return false, api.ErrArg
	}
	life, limited, _ := Life(p.Level)
	if !limited {
		return true, api.OK
	}
	for _, f := range phases(p, l) {
		// the exposure never falls within a phase
		last := min(w.To, f.to-1)
		if last >= max(w.From, f.from) && f.exposed(last) > life {
			return false, api.OK
		}
	}
	return true, api.OK
}

// Expires is the first moment at which the exposure is greater than the life.
func Expires(p api.Part, l []api.Stay) (int, bool, api.Errno) {
	if e := checkLying(p, l); e != api.OK {
		return 0, false, e
	}
	life, limited, _ := Life(p.Level)
	if !limited {
		return 0, false, api.OK
	}
	for _, f := range phases(p, l) {
		if f.exposed(f.to-1) > life {
			return f.from + max(life+1-f.exposure, 0), true, api.OK
		}
	}
	return 0, false, api.OK
}
