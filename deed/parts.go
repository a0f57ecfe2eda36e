package deed

import (
	"slices"

	"drowner/api"
)

// Parts returns the parts of a turn on a day.
func Parts(l []api.Deed, turn string, day, known int) ([]api.Part, api.Errno) {
	return find(l, turn, day, known, true)
}

// find returns the parts of a turn on a day. The errors are those of the deeds and the days, then ErrArg unless all else that was given is right, then ErrNone.
func find(l []api.Deed, turn string, day, known int, right bool) ([]api.Part, api.Errno) {
	m, _, e := keep(l, day, known)
	if e != api.OK {
		return nil, e
	}
	if !right {
		return nil, api.ErrArg
	}
	t, ok := m[turn]
	if !ok {
		return nil, api.ErrNone
	}
	return t.parts(day), api.OK
}

// At returns the part of a turn in which a point lies.
func At(l []api.Deed, turn string, point api.Ratio, day, known int) (api.Part, api.Errno) {
	parts, e := find(l, turn, day, known, isPoint(point))
	if e != api.OK {
		return api.Part{}, e
	}
	return partAt(parts, point), api.OK
}

// partAt returns the part in which a point lies.
func partAt(parts []api.Part, point api.Ratio) api.Part {
	return parts[slices.IndexFunc(parts, func(p api.Part) bool { return less(point, p.To) })]
}

// User returns who uses a minute of a turn.
func User(l []api.Deed, turn string, minute, long, day, known int) (string, api.Errno) {
	parts, e := find(l, turn, day, known, isLong(long) && minute >= 0 && minute < long)
	if e != api.OK {
		return "", e
	}
	return partAt(parts, lowest(minute, long)).User, api.OK
}

func isLong(n int) bool { return n >= 1 && n <= api.MaxPeriod }

// Minutes returns the minutes of a turn that a person uses.
func Minutes(l []api.Deed, turn, name string, long, day, known int) ([]api.Span, api.Errno) {
	parts, e := find(l, turn, day, known, isLong(long))
	if e != api.OK {
		return nil, e
	}
	var all []api.Span
	for _, p := range parts {
		x := api.Span{Lo: minuteFrom(p.From, long), Hi: minuteFrom(p.To, long) - 1}
		if p.User == name && x.Lo <= x.Hi {
			all = append(all, x)
		}
	}
	return join(all, func(a, b api.Span) (api.Span, bool) {
		return api.Span{Lo: a.Lo, Hi: b.Hi}, a.Hi+1 == b.Lo
	}), api.OK
}

// minuteFrom returns the first minute of a turn so many minutes long that lies not ahead of a point.
func minuteFrom(point api.Ratio, long int) int {
	return (point.Num*long + point.Den - 1) / point.Den
}

// Moved returns the parts of a turn that are others as known on a later day.
func Moved(l []api.Deed, turn string, day, from, to int) ([]api.Part, api.Errno) {
	before, e := find(l, turn, day, from, isDay(to))
	if e != api.OK {
		return nil, e
	}
	after, e := find(l, turn, day, to, true)
	if e != api.OK {
		return nil, e
	}
	var moved []api.Part
	for _, x := range after {
		for _, y := range before {
			cut := both(x, y)
			if less(cut.From, cut.To) && !alike(x, y) {
				moved = append(moved, cut)
			}
		}
	}
	return joined(moved), api.OK
}

// both returns the first one of two parts, as far as the other one has the same points. If there are none, it does not end behind where it begins.
func both(x, y api.Part) api.Part {
	if less(x.From, y.From) {
		x.From = y.From
	}
	if less(y.To, x.To) {
		x.To = y.To
	}
	return x
}

// joined joins neighbouring parts that are alike.
func joined(l []api.Part) []api.Part {
	return join(l, func(a, b api.Part) (api.Part, bool) {
		is := a.To == b.From && alike(a, b)
		a.To = b.To
		return a, is
	})
}

// alike reports whether two parts are the same, wherever they are.
func alike(a, b api.Part) bool {
	b.From, b.To = a.From, a.To
	return a == b
}

// join joins neighbours as long as a function makes one of two, and says that they may be one.
func join[T any](l []T, one func(a, b T) (T, bool)) []T {
	var done []T
	for _, x := range l {
		if last := len(done) - 1; last >= 0 {
			if wide, ok := one(done[last], x); ok {
				done[last] = wide
				continue
			}
		}
		done = append(done, x)
	}
	return done
}
