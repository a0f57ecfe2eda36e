package carrier

import (
	"iter"
	"slices"

	"drowner/api"
)

// place is where an outlet is: its number among all outlets, its carrier, and its number on that.
type place struct{ at, carrier, nth int }

// places yields all outlets, in order, with their places.
func places(w api.Works) iter.Seq2[place, api.Outlet] {
	return func(yield func(place, api.Outlet) bool) {
		at := 0
		for c, x := range w.Carriers {
			for n, o := range x.Outlets {
				if !yield(place{at, c, n}, o) {
					return
				}
				at++
			}
		}
	}
}

// find returns the place of an outlet, and whether there is such an outlet.
func find(w api.Works, id int) (place, bool) {
	found, at := false, place{}
search:
	for c, x := range w.Carriers {
		for n, o := range x.Outlets {
			if o.ID == id {
				found, at.carrier, at.nth = true, c, n
				break search
			}
			at.at++
		}
	}
	if !found {
		return place{}, false
	}
	return at, true
}

// count returns how many outlets there are.
func count(w api.Works) int {
	n := 0
	for _, x := range w.Carriers {
		n += len(x.Outlets)
	}
	return n
}

// heads returns the carriers that no outlet feeds, in order.
func heads(w api.Works) []int {
	var fed [api.MaxCarriers]bool
	for _, o := range places(w) {
		if o.Into >= 0 {
			fed[o.Into] = true
		}
	}
	var l []int
	for c := range w.Carriers {
		if !fed[c] {
			l = append(l, c)
		}
	}
	return l
}

// paths returns the path of each outlet, by its ID. The outlet that feeds a carrier stands before those of the carrier, so that its path is known by then.
func paths(w api.Works) map[int][]int {
	of := map[int][]int{}
	var feeders [api.MaxCarriers]int // no outlet has the ID 0, so that heads begin with no path
	for p, o := range places(w) {
		of[o.ID] = append(slices.Clone(of[feeders[p.carrier]]), o.ID)
		if o.Into >= 0 {
			feeders[o.Into] = o.ID
		}
	}
	return of
}

// cut returns the first n elements of a list as a list of their own.
func cut[T any](list []T, n int) []T {
	return append([]T(nil), list[:n]...)
}

// among returns the IDs of the outlets for which a function says so, in order.
func among(w api.Works, is func(place, api.Outlet) bool) []int {
	var l []int
	for p, o := range places(w) {
		if is(p, o) {
			l = append(l, o.ID)
		}
	}
	return l
}
