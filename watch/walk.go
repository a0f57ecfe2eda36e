package watch

import (
	"cmp"
	"iter"
	"slices"

	"drowner/api"
)

// state is how a hatch is at a minute in which its run may end, and which of the events have come by then. A run that began can only go on until such a minute, so that no state is needed for those in between.
type state struct {
	minute int // -1 ahead of all courses
	open   bool
	told   [api.MaxEvents]bool
}

func beginning() state { return state{minute: -1} }

// rule reports whether a hatch cannot be so in a minute.
type rule func(minute int, open bool) bool

// walk goes through the courses of a watch.
type walk struct {
	hatch  api.Hatch
	last   int
	barred map[bool][]bool // whether it cannot be open (true), or shut (false), in each minute
	events []word
}

// walkOf returns a walk through the courses of a watch that keep further rules.
func walkOf(w api.Watch, rules ...rule) walk {
	for _, x := range w.Words {
		rules = append(rules, word(x).forbids)
	}
	k := walk{hatch: w.Hatch, last: w.Last, barred: map[bool][]bool{}, events: eventsOf(w)}
	for _, open := range states() {
		for m := range w.Last + 1 {
			is := slices.ContainsFunc(rules, func(forbids rule) bool { return forbids(m, open) })
			k.barred[open] = append(k.barred[open], is)
		}
	}
	return k
}

// steps yields the states that can be next to one; that in which the hatch is shut in the next minute comes first.
func (k walk) steps(s state) iter.Seq[state] {
	return func(yield func(state) bool) {
		if s.minute == k.last {
			return
		}
		for _, open := range states() {
			to := k.next(s, open)
			if !slices.Contains(k.barred[open][s.minute+1:to.minute+1], true) && !yield(to) {
				return
			}
		}
	}
}

// next returns the state that is next to one if the hatch is so in the next minute, whatever words forbid.
func (k walk) next(s state, open bool) state {
	to := state{minute: s.minute + 1, open: open, told: s.told}
	if !s.changes(to) {
		return to
	}
	for i, x := range k.events {
		to.told[i] = to.told[i] || x.tells(to.minute, open)
	}
	to.minute = min(s.minute+stay(k.hatch, open), k.last)
	return to
}

// changes reports whether the hatch is opened or shut on the way to another state.
func (s state) changes(to state) bool { return s.minute >= 0 && s.open != to.open }

// isEnd reports whether a course ends with a state.
func (k walk) isEnd(s state) bool {
	return s.minute == k.last && !slices.Contains(s.told[:len(k.events)], false)
}

// way is how a course goes on from a state to its end, if it does, with the least weight.
type way struct {
	ends   bool
	to     state
	weight int
}

// search is the ways from all states that are reached, by what the steps weigh.
type search struct {
	walk
	weigh func(from, to state) int
	found map[state]way
}

func (k walk) searched(weigh func(from, to state) int) search {
	f := search{walk: k, weigh: weigh, found: map[state]way{}}
	f.from(beginning())
	return f
}

// from returns the way from a state; of those with the same weight it is the one whose course comes first.
func (f search) from(s state) way {
	if x, is := f.found[s]; is {
		return x
	}
	x, _ := least(f.ways(s), func(a, b way) int { return cmp.Compare(a.weight, b.weight) })
	x.ends = x.ends || f.isEnd(s)
	f.found[s] = x
	return x
}

// ways yields, for each step from a state, the way that begins with it, if it leads to an end.
func (f search) ways(s state) iter.Seq[way] {
	return func(yield func(way) bool) {
		for to := range f.steps(s) {
			on := f.from(to)
			if on.ends && !yield(way{ends: true, to: to, weight: on.weight + f.weigh(s, to)}) {
				return
			}
		}
	}
}

// least returns the first one of some things than which none is less, and whether there are any.
func least[T any](l iter.Seq[T], compare func(a, b T) int) (T, bool) {
	var best T
	found := false
	for x := range l {
		if !found || compare(x, best) < 0 {
			best, found = x, true
		}
	}
	return best, found
}

// isEmpty reports whether there is no course.
func (f search) isEmpty() bool { return !f.found[beginning()].ends }

// course returns the course with the least weight, and the weight, if there is a course.
func (f search) course() (int, []bool, api.Errno) {
	if f.isEmpty() {
		return 0, nil, api.ErrClash
	}
	var c []bool
	for s := beginning(); s.minute < f.last; s = f.found[s].to {
		to := f.found[s].to
		c = append(c, slices.Repeat([]bool{to.open}, to.minute-s.minute)...)
	}
	return f.found[beginning()].weight, c, api.OK
}

// evenly is how steps weigh where all courses are the same.
func evenly(_, _ state) int { return 0 }

// isClash reports whether there is no course.
func (k walk) isClash() bool { return k.searched(evenly).isEmpty() }
