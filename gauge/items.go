package gauge

import (
	"cmp"
	"iter"
	"slices"

	"drowner/api"
)

// item is a reading or a peg.
type item struct {
	id, minute, later int      // later: how many minutes behind the item before it
	gauge             int      // the number of the gauge, or -1 for a peg
	left              api.Span // the levels that a peg or a live reading leaves; they may go beyond those of the well
	again             bool     // whether the reading before it shows the same
}

// items yields the items of a well, in their order.
func items(w api.Well) iter.Seq2[int, item] {
	return func(yield func(int, item) bool) {
		last := map[int]api.Span{} // by the number of the gauge; its error stays, so that it leaves the same if it shows the same
		minute := 0
		for i, x := range ordered(w) {
			if i > 0 {
				x.later = x.minute - minute
			}
			minute = x.minute
			if x.gauge >= 0 {
				before, is := last[x.gauge]
				x.again = is && before == x.left
				last[x.gauge] = x.left
			}
			if !yield(i, x) {
				return
			}
		}
	}
}

// ordered returns the items as each one is by itself, in their order.
func ordered(w api.Well) []item {
	var l []item
	for _, x := range w.Looks {
		n := number(w, x.Gauge)
		far := w.Gauges[n].Error
		l = append(l, item{id: x.ID, minute: x.Minute, gauge: n, left: span(x.Shown-far, x.Shown+far)})
	}
	for _, x := range w.Pegs {
		l = append(l, item{id: x.ID, minute: x.Minute, gauge: -1, left: x.Span})
	}
	slices.SortFunc(l, func(a, b item) int {
		return cmp.Or(cmp.Compare(a.minute, b.minute), cmp.Compare(a.id, b.id))
	})
	return l
}

// idsOf returns the IDs of the items, in their order.
func idsOf(w api.Well) []int {
	var l []int
	for _, x := range items(w) {
		l = append(l, x.id)
	}
	return l
}

// bounds returns the least and the greatest number of some things, and whether there is any.
func bounds[T any](all iter.Seq[T], number func(T) int) (api.Span, bool) {
	var x api.Span
	is := false
	for v := range all {
		n := number(v)
		if !is {
			x = span(n, n)
		}
		x.Lo, x.Hi = min(x.Lo, n), max(x.Hi, n)
		is = true
	}
	return x, is
}

func same(n int) int { return n }
