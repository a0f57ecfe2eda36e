package gauge

import (
	"slices"

	"drowner/api"
)

// Rests returns the items without each of which the ends at a minute are others.
func Rests(w api.Well, minute int) ([]int, api.Errno) {
	asked, e := Asked(w, minute, span(0, w.Top))
	if e != api.OK {
		return nil, e
	}
	ends, ok := endsOf(asked)
	if !ok {
		return nil, api.ErrClash
	}
	return itemsBut(w, func(id int) bool {
		// The peg that is asked for keeps its place: its ID is still greater than all others.
		x, ok := endsOf(without(asked, names{id: true}.has))
		return !ok || x != ends
	}), api.OK
}

// Suspects returns the items without each of which there is a tale.
func Suspects(w api.Well) ([]int, api.Errno) {
	if e := Check(w); e != api.OK {
		return nil, e
	}
	if agrees(w) {
		return nil, api.OK
	}
	return itemsBut(w, func(id int) bool {
		return agrees(without(w, names{id: true}.has))
	}), api.OK
}

// itemsBut returns the IDs of the items for which a function says so, in increasing order.
func itemsBut(w api.Well, is func(id int) bool) []int {
	var l []int
	for _, x := range items(w) {
		if is(x.id) {
			l = append(l, x.id)
		}
	}
	slices.Sort(l)
	return l
}

// Without returns a well without some items.
func Without(w api.Well, ids []int) (api.Well, api.Errno) {
	if e := Check(w); e != api.OK {
		return api.Well{}, e
	}
	gone := names{}
	for _, id := range ids {
		gone[id] = true
	}
	return without(w, gone.has), api.OK
}

// without returns a copy of a well without the items whose IDs a function names.
func without(w api.Well, gone func(id int) bool) api.Well {
	left := copyOf(w)
	left.Looks = slices.DeleteFunc(left.Looks, func(x api.Look) bool { return gone(x.ID) })
	left.Pegs = slices.DeleteFunc(left.Pegs, func(x api.Peg) bool { return gone(x.ID) })
	return left
}

func copyOf(w api.Well) api.Well {
	w.Gauges = slices.Clone(w.Gauges)
	w.Looks = slices.Clone(w.Looks)
	w.Pegs = slices.Clone(w.Pegs)
	return w
}
