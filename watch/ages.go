package watch

import (
	"iter"

	"drowner/api"
)

// age is for how many minutes a hatch has been so; a number that is as great as it must stay so stands for all greater ones, too.
type age struct {
	open bool
	long int
}

// layer is the ages at a minute.
type layer map[age]bool

// older yields the ages to which steps lead from one, whatever words forbid.
func (k walk) older(a age) iter.Seq[age] {
	return func(yield func(age) bool) {
		enough := stay(k.hatch, a.open)
		if yield(age{a.open, min(a.long+1, enough)}) && a.long == enough {
			yield(age{!a.open, 1})
		}
	}
}

// comes returns what comes of the ages at the minute before one.
func (k walk) comes(from layer, minute int) layer {
	to := layer{}
	for a := range from {
		for b := range k.older(a) {
			if !k.barred[b.open][minute] {
				to[b] = true
			}
		}
	}
	return to
}

// first returns the ages at the minute 0.
func (k walk) first() layer {
	l := layer{}
	for _, open := range states() {
		if !k.barred[open][0] {
			l[age{open, stay(k.hatch, open)}] = true
		}
	}
	return l
}

// spans returns the ages of a layer of one kind.
func (k walk) spans(l layer, open bool) []api.Span {
	return spansOf(stay(k.hatch, open), func(n int) bool { return l[age{open, n}] })
}

// Ages returns for how many minutes it can have been open, or shut, in each minute.
func Ages(w api.Watch) ([]api.Ages, api.Errno) {
	if e := Check(w); e != api.OK {
		return nil, e
	}
	k := walkOf(w)
	here := k.first()
	var l []api.Ages
	for m := range w.Last + 1 {
		if m > 0 {
			here = k.comes(here, m)
		}
		l = append(l, api.Ages{Open: k.spans(here, true), Shut: k.spans(here, false)})
	}
	return l, api.OK
}

// CheckAges returns OK if ages show that it cannot have been so in a minute.
func CheckAges(w api.Watch, l []api.Ages, minute int, open bool) api.Errno {
	if e := checkMinute(w, minute); e != api.OK {
		return e
	}
	if !walkOf(w).isClosed(l) || len(agesOf(l[minute], open)) > 0 {
		return api.ErrProof
	}
	return api.OK
}

// agesOf returns the ages of one kind.
func agesOf(x api.Ages, open bool) []api.Span {
	if open {
		return x.Open
	}
	return x.Shut
}

// isClosed reports whether all that is possible at the minute 0 is there, and all that comes of what is there.
func (k walk) isClosed(l []api.Ages) bool {
	if len(l) != k.last+1 {
		return false
	}
	needed := k.first()
	for m, x := range l {
		here, ok := k.layerOf(x)
		if !ok || !holds(here, needed) {
			return false
		}
		if m < k.last {
			needed = k.comes(here, m+1)
		}
	}
	return true
}

// holds reports whether all of a layer is in another one.
func holds(l, needed layer) bool {
	for a := range needed {
		if !l[a] {
			return false
		}
	}
	return true
}

// layerOf reads ages, and reports whether they are spans in order, with a gap between each two, within those of the hatch.
func (k walk) layerOf(x api.Ages) (layer, bool) {
	l := layer{}
	for _, open := range states() {
		before := -1 // so that the least age is 1
		for _, s := range agesOf(x, open) {
			if s.Hi > stay(k.hatch, open) || s.Lo > s.Hi || s.Lo < before+2 {
				return nil, false
			}
			for n := s.Lo; n <= s.Hi; n++ {
				l[age{open, n}] = true
			}
			before = s.Hi
		}
	}
	return l, true
}
