package deed_test

import (
	"slices"
	"strings"
	"testing"

	"drowner/api"
	"drowner/deed"
)

// ask is all that the functions of the chapter may be asked.
type ask struct {
	turn, name         string
	point              api.Ratio
	minute, long       int
	day, known, before int
}

// good returns what no function finds an error in, with the deeds of the examples.
func good() ask {
	return ask{turn: "upper", name: "ben", point: ratio(1, 2), minute: 5, long: 10, day: 9, known: 12, before: 11}
}

// call is a function of the chapter; it returns the error, and whether all else is zero.
type call struct {
	name string
	has  string // which fields of what is asked it has, beside the deeds
	do   func(l []api.Deed, q ask) (api.Errno, bool)
}

func list[T any](l []T, e api.Errno) (api.Errno, bool) { return e, len(l) == 0 }

func one[T comparable](x T, e api.Errno) (api.Errno, bool) {
	var zero T
	return e, x == zero
}

func calls() []call {
	return []call{
		{"Check", "", func(l []api.Deed, q ask) (api.Errno, bool) { return deed.Check(l), true }},
		{"Print", "", func(l []api.Deed, q ask) (api.Errno, bool) { return one(deed.Print(l)) }},
		{"Order", "day known", func(l []api.Deed, q ask) (api.Errno, bool) { return list(deed.Order(l, q.day, q.known)) }},
		{"Void", "day known", func(l []api.Deed, q ask) (api.Errno, bool) { return list(deed.Void(l, q.day, q.known)) }},
		{"Turns", "day known", func(l []api.Deed, q ask) (api.Errno, bool) { return list(deed.Turns(l, q.day, q.known)) }},
		{"Parts", "turn day known", func(l []api.Deed, q ask) (api.Errno, bool) { return list(deed.Parts(l, q.turn, q.day, q.known)) }},
		{"At", "turn point day known", func(l []api.Deed, q ask) (api.Errno, bool) { return one(deed.At(l, q.turn, q.point, q.day, q.known)) }},
		{"User", "turn minute long day known", func(l []api.Deed, q ask) (api.Errno, bool) {
			return one(deed.User(l, q.turn, q.minute, q.long, q.day, q.known))
		}},
		{"Minutes", "turn long day known", func(l []api.Deed, q ask) (api.Errno, bool) {
			return list(deed.Minutes(l, q.turn, q.name, q.long, q.day, q.known))
		}},
		{"Holdings", "day known", func(l []api.Deed, q ask) (api.Errno, bool) {
			return list(deed.Holdings(l, q.name, q.day, q.known))
		}},
		{"Persons", "day known", func(l []api.Deed, q ask) (api.Errno, bool) { return list(deed.Persons(l, q.day, q.known)) }},
		{"Chain", "turn point day known", func(l []api.Deed, q ask) (api.Errno, bool) {
			return list(deed.Chain(l, q.turn, q.point, q.day, q.known))
		}},
		{"CheckChain", "point", func(l []api.Deed, q ask) (api.Errno, bool) {
			return one(deed.CheckChain(l, q.turn, q.point, []int{0}))
		}},
		{"Rests", "turn point day known", func(l []api.Deed, q ask) (api.Errno, bool) {
			return list(deed.Rests(l, q.turn, q.point, q.day, q.known))
		}},
		{"Moved", "turn day known before", func(l []api.Deed, q ask) (api.Errno, bool) {
			return list(deed.Moved(l, q.turn, q.day, q.before, q.known))
		}},
	}
}

// wrong is something asked that is not right, in a field.
type wrong struct {
	field string
	do    func(q *ask)
}

func wrongs() []wrong {
	var l []wrong
	for _, n := range []int{-1, 729, 1<<63 - 1, -1 << 63} {
		l = append(l, wrong{"day", func(q *ask) { q.day = n }}, wrong{"known", func(q *ask) { q.known = n }}, wrong{"before", func(q *ask) { q.before = n }}, wrong{"minute", func(q *ask) { q.minute = n }})
	}
	for _, n := range []int{0, -1, 40321, 1<<63 - 1, -1 << 63} {
		l = append(l, wrong{"long", func(q *ask) { q.long = n }})
	}
	l = append(l, wrong{"minute", func(q *ask) { q.minute = q.long }})
	for _, p := range []api.Ratio{{}, ratio(1, 1), ratio(2, 1), ratio(3, 2), ratio(2, 4), ratio(0, 2), ratio(-1, 2), ratio(1, -2), ratio(-1, -2), ratio(1, 0), ratio(1, api.MaxDen+1), ratio(1<<62, 1<<62+1), ratio(-1<<63, 1)} {
		l = append(l, wrong{"point", func(q *ask) { q.point = p }})
	}
	return l
}

func badDeeds(t *testing.T) map[api.Errno][]api.Deed {
	l := deeds(t, source)
	return map[api.Errno][]api.Deed{api.ErrForm: append(slices.Clone(l), api.Deed{}), api.ErrLimit: append(slices.Repeat(l, 10), api.Deed{})}
}

// The errors of the deeds come first, those of what is asked next, ErrNone of a turn last; without them there is none.
func TestErrors(t *testing.T) {
	l := deeds(t, source)
	for _, f := range calls() {
		fields := strings.Fields(f.has)
		e, zero := f.do(l, good())
		if want(t, f.name, e, api.OK); zero && f.name != "Check" && f.name != "Void" {
			t.Error(f.name, "tells nothing")
		}
		for e, bad := range badDeeds(t) {
			got, zero := f.do(bad, good())
			if want(t, f.name, got, e); !zero {
				t.Error(f.name, "tells something")
			}
		}
		none := good()
		none.turn = "lower"
		for _, turn := range []string{"lower", "", "day", "Upper", "upper ", "\x00"} {
			q := good()
			q.turn = turn
			got, zero := f.do(l, q)
			if slices.Contains(fields, "turn") {
				if want(t, f.name, got, api.ErrNone); !zero {
					t.Error(f.name, "tells something")
				}
			}
		}
		for i, x := range wrongs() {
			for _, q := range []ask{good(), none} {
				x.do(&q)
				if q.minute >= q.long && slices.Contains(fields, "minute") || slices.Contains(fields, x.field) {
					got, zero := f.do(l, q)
					if got != api.ErrArg || !zero {
						t.Error(f.name, x.field, i, got, zero)
					}
				} else if got, _ := f.do(l, q); got == api.ErrArg {
					t.Error(f.name, x.field, i, "does not matter")
				}
				for e, bad := range badDeeds(t) {
					got, _ := f.do(bad, q)
					want(t, f.name, got, e)
				}
			}
		}
	}
}

// A turn is not founded by deeds of a later day, nor by such that are not known.
func TestNotFounded(t *testing.T) {
	l := deeds(t, "day 3 known 5 found upper for ben; day 1 found lower for ben;")
	for _, f := range calls() {
		if !strings.HasPrefix(f.has, "turn") {
			continue
		}
		for _, x := range []struct {
			day, known int
			e          api.Errno
		}{{2, 5, api.ErrNone}, {3, 4, api.ErrNone}, {0, 0, api.ErrNone}, {2, 728, api.ErrNone}, {728, 4, api.ErrNone}, {3, 5, api.OK}, {728, 728, api.OK}} {
			q := good()
			q.day, q.known, q.before = x.day, x.known, 728
			e, zero := f.do(l, q)
			if want(t, f.name, e, x.e); e != api.OK && !zero {
				t.Error(f.name, x)
			}
		}
		e, _ := f.do(nil, good())
		want(t, f.name, e, api.ErrNone)
	}
}

// The first and the last day are days.
func TestDays(t *testing.T) {
	l := deeds(t, "day 0 found upper for ben; day 728 sell upper of ben to carl;")
	for _, day := range []int{0, 1, 727, 728} {
		for _, known := range []int{0, 1, 727, 728} {
			owner := "ben"
			if day == 728 && known == 728 {
				owner = "carl"
			}
			if p, e := deed.At(l, "upper", ratio(0, 1), day, known); e != api.OK || p.Owner != owner {
				t.Error(day, known, p, e)
			}
		}
	}
}
