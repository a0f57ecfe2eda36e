package gauge

import (
	"maps"
	"slices"

	"drowner/api"
)

// CheckTale returns OK if a tale explains a well.
func CheckTale(w api.Well, t api.Tale) api.Errno {
	if e := Check(w); e != api.OK {
		return e
	}
	if !areLooks(w, t.Stuck) || !isTold(walkOf(w, false), t) {
		return api.ErrProof
	}
	return api.OK
}

// areLooks reports whether IDs are those of readings, in increasing order.
func areLooks(w api.Well, ids []int) bool {
	for i, id := range ids {
		if i > 0 && id <= ids[i-1] {
			return false
		}
		if !slices.ContainsFunc(w.Looks, func(x api.Look) bool { return x.ID == id }) {
			return false
		}
	}
	return true
}

// isTold reports whether a walk can pass the levels of a tale, with the readings stuck that are so in it.
func isTold(k walk, t api.Tale) bool {
	if len(t.Levels) != len(k.items) {
		return false
	}
	s, here := k.beginning()
	for i, x := range k.items {
		n := t.Levels[i]
		if !has(span(0, k.well.Top), n) {
			return false
		}
		stuck := slices.Contains(t.Stuck, x.id)
		l := k.ways(s, x)
		at := slices.IndexFunc(l, func(v way) bool { return x.sticks(v.to) == stuck })
		if at < 0 || !k.moved(here, x).cut(l[at].left)[n] {
			return false
		}
		s, here = l[at].to, levelsOf([]api.Span{span(n, n)})
	}
	return true
}

// Find returns a tale.
func Find(w api.Well) (api.Tale, api.Errno) {
	if e := Check(w); e != api.OK {
		return api.Tale{}, e
	}
	k := walkOf(w, false)
	l, ok := k.passed()
	if !ok {
		return api.Tale{}, api.ErrClash
	}
	return k.tale(l), api.OK
}

// agrees reports whether a well has a tale.
func agrees(w api.Well) bool {
	_, ok := walkOf(w, false).passed()
	return ok
}

// Live returns the readings that stick in no tale.
func Live(w api.Well) ([]int, api.Errno) {
	return surely(w, func(x item, s state) bool { return !x.sticks(s) })
}

// Stuck returns the readings that stick in all tales.
func Stuck(w api.Well) ([]int, api.Errno) {
	return surely(w, func(x item, s state) bool { return x.sticks(s) })
}

// surely returns the readings of which something is so in all states behind them that tales pass.
func surely(w api.Well, is func(item, state) bool) ([]int, api.Errno) {
	if e := Check(w); e != api.OK {
		return nil, e
	}
	k := walkOf(w, false)
	list, ok := k.passed()
	if !ok {
		return nil, api.ErrClash
	}
	var ids []int
	for x, l := range k.looks(list) {
		if !slices.ContainsFunc(l.sorted(), func(s state) bool { return !is(x, s) }) {
			ids = append(ids, x.id)
		}
	}
	slices.Sort(ids)
	return ids, api.OK
}

// Fewest returns a tale with as few stuck readings as possible.
func Fewest(w api.Well) (api.Tale, api.Errno) {
	return taleOf(w, func(x api.Span) int { return x.Lo })
}

// Most returns a tale with as many stuck readings as possible.
func Most(w api.Well) (api.Tale, api.Errno) {
	return taleOf(w, func(x api.Span) int { return x.Hi })
}

// taleOf returns a tale with as many stuck readings as are chosen of how many there can be.
func taleOf(w api.Well, choose func(api.Span) int) (api.Tale, api.Errno) {
	if e := Check(w); e != api.OK {
		return api.Tale{}, e
	}
	k := walkOf(w, true)
	list := k.reached()
	last := list[len(k.items)]
	x, ok := bounds(maps.Keys(last), func(s state) int { return s.stuck })
	if !ok {
		return api.Tale{}, api.ErrClash
	}
	want := choose(x)
	maps.DeleteFunc(last, func(s state, _ levels) bool { return s.stuck != want })
	k.narrow(list)
	return k.tale(list), api.OK
}

// Count returns how many sets of stuck readings tales have.
func Count(w api.Well) (int, api.Errno) {
	if e := Check(w); e != api.OK {
		return 0, e
	}
	if len(w.Looks) > api.MaxPattern {
		return 0, api.ErrLimit
	}
	k := walkOf(w, false)
	s, l := k.beginning()
	return k.patterns(k.items, s, l), api.OK
}

// patterns returns how many ways there are through items, from a state with some levels.
func (k walk) patterns(list []item, s state, l levels) int {
	if len(list) == 0 {
		return 1
	}
	n := 0
	moved := k.moved(l, list[0])
	for _, v := range k.ways(s, list[0]) {
		if left := moved.cut(v.left); !left.isEmpty() {
			n += k.patterns(list[1:], v.to, left)
		}
	}
	return n
}
