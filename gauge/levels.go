package gauge

import (
	"iter"

	"drowner/api"
)

// levels is a set of levels.
type levels [api.MaxLevel + 1]bool

// levelsOf returns the set of the levels of spans, which lie within 0 to MaxLevel.
func levelsOf(spans []api.Span) levels {
	var l levels
	for _, x := range spans {
		for n := x.Lo; n <= x.Hi; n++ {
			l[n] = true
		}
	}
	return l
}

// each yields the levels of a set, in increasing order.
func (l levels) each() iter.Seq[int] {
	return func(yield func(int) bool) {
		for n, is := range l {
			if is && !yield(n) {
				return
			}
		}
	}
}

// spans returns a set as the fewest spans, in order.
func (l levels) spans() []api.Span {
	var list []api.Span
	for n := range l.each() {
		if last := len(list) - 1; last >= 0 && list[last].Hi == n-1 {
			list[last].Hi = n
		} else {
			list = append(list, span(n, n))
		}
	}
	return list
}

func (l levels) isEmpty() bool { return l == levels{} }

// cut returns those levels of a set that lie within a span.
func (l levels) cut(x api.Span) levels {
	for n := range l {
		l[n] = l[n] && has(x, n)
	}
	return l
}

func (l levels) or(m levels) levels {
	for n, is := range m {
		l[n] = l[n] || is
	}
	return l
}

func (l levels) and(m levels) levels {
	for n, is := range m {
		l[n] = l[n] && is
	}
	return l
}

func (l levels) isIn(m levels) bool { return l == l.and(m) }

// spread returns what becomes of a set if each level falls or rises by so much at most, from 0 to a top level.
func (l levels) spread(fall, rise, top int) levels {
	var all levels
	for n, up := 0, -1; n <= top; n++ {
		if l[n] {
			up = n + rise
		}
		all[n] = n <= up
	}
	for n, down := top, top+1; n >= 0; n-- {
		if l[n] {
			down = n - fall
		}
		all[n] = all[n] || n >= down
	}
	return all
}
