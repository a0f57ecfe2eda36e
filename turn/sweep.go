package turn

import (
	"iter"

	"drowner/api"
)

// lane is a lot whose latest run is kept, so that it is divided once a run only, and not for every run of the others.
type lane struct {
	lot lot
	run api.Span
}

// from returns the first run that ends at an integer or behind it. The integer is at least that of the call before.
func (l *lane) from(at int) api.Span {
	if l.run.Hi < at {
		l.run = l.lot.from(at)
	}
	return l.run
}

// sweep finds the runs of a set from its first minute to its last one; it does not go back.
type sweep struct{ lanes []*lane }

func sweepOf(s api.Minutes) sweep {
	var w sweep
	for _, l := range lots(s) {
		w.lanes = append(w.lanes, &lane{lot: l, run: api.Span{Lo: -1, Hi: -1}})
	}
	return w
}

// next returns the first run of the set within a span; it begins at never if there is none.
func (w sweep) next(x api.Span) api.Span {
	lo := least(w.lanes, func(l *lane) int { return max(l.from(x.Lo).Lo, x.Lo) })
	if lo > x.Hi {
		return api.Span{Lo: never, Hi: never}
	}
	return api.Span{Lo: lo, Hi: min(w.gap(lo, x.Hi)-1, x.Hi)}
}

// gap returns the first integer from a minute on that is not in the set; any one behind hi if there is none up to there.
func (w sweep) gap(at, hi int) int {
search:
	for at <= hi {
		for _, l := range w.lanes {
			if run := l.from(at); run.Lo <= at {
				at = run.Hi + 1
				continue search
			}
		}
		break
	}
	return at
}

// within yields the minutes of a span that are in the set, as the fewest spans, in order.
func (w sweep) within(x api.Span) iter.Seq[api.Span] {
	return func(yield func(api.Span) bool) {
		for at := x.Lo; at <= x.Hi; {
			run := w.next(api.Span{Lo: at, Hi: x.Hi})
			if run.Lo > x.Hi || !yield(run) {
				return
			}
			at = run.Hi + 1
		}
	}
}

// runs yields the minutes of a span that are in a set, as the fewest spans, in order.
func runs(s api.Minutes, x api.Span) iter.Seq[api.Span] {
	return func(yield func(api.Span) bool) {
		sweepOf(s).within(x)(yield)
	}
}

// gaps yields the minutes of a span that are not in a set, as the fewest spans, in order.
func gaps(s api.Minutes, x api.Span) iter.Seq[api.Span] {
	return func(yield func(api.Span) bool) {
		at := x.Lo
		for run := range runs(s, x) {
			if at < run.Lo && !yield(api.Span{Lo: at, Hi: run.Lo - 1}) {
				return
			}
			at = run.Hi + 1
		}
		if at <= x.Hi {
			yield(api.Span{Lo: at, Hi: x.Hi})
		}
	}
}

// both yields the minutes of a span that are in two sets, as the fewest spans, in order.
func both(a, b api.Minutes, x api.Span) iter.Seq[api.Span] {
	return func(yield func(api.Span) bool) {
		w := sweepOf(b)
		for run := range runs(a, x) {
			for part := range w.within(run) {
				if !yield(part) {
					return
				}
			}
		}
	}
}
