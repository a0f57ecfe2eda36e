package watch

import (
	"slices"

	"drowner/api"
)

// word is a word of a watch.
type word api.Word

// isEvent reports whether a word tells of a change.
func (x word) isEvent() bool { return x.Kind == api.WdOpened || x.Kind == api.WdClosed }

// forbids reports whether a word says that a hatch is not so in a minute.
func (x word) forbids(minute int, open bool) bool {
	return has(x.At, minute) && (x.Kind == api.WdOpen && !open || x.Kind == api.WdShut && open)
}

// tells reports whether a word tells of a change in a minute, from which on a hatch is so.
func (x word) tells(minute int, open bool) bool {
	return has(x.At, minute) && (x.Kind == api.WdOpened && open || x.Kind == api.WdClosed && !open)
}

// isKept reports whether a course, of as many minutes as the watch has, keeps a word.
func (x word) isKept(course []bool) bool {
	kept := !x.isEvent()
search:
	for m := x.At.Lo; m <= x.At.Hi; m++ {
		changed := m > 0 && course[m] != course[m-1]
		switch {
		case x.forbids(m, course[m]):
			kept = false
			break search
		case changed && x.tells(m, course[m]):
			kept = true
			break search
		}
	}
	return kept
}

// eventsOf returns the words of a watch that tell of changes.
func eventsOf(w api.Watch) []word {
	var l []word
	for _, x := range w.Words {
		if word(x).isEvent() {
			l = append(l, word(x))
		}
	}
	return l
}

// idsOf returns the IDs of the words of a watch, in increasing order.
func idsOf(w api.Watch) []int {
	var ids []int
	for _, x := range w.Words {
		ids = append(ids, x.ID)
	}
	slices.Sort(ids)
	return ids
}

// only returns a watch with those of its words, in new memory, whose IDs a function names.
func only(w api.Watch, is func(id int) bool) api.Watch {
	w.Words = slices.DeleteFunc(slices.Clone(w.Words), func(x api.Word) bool { return !is(x.ID) })
	return w
}

// without returns a watch without a word.
func without(w api.Watch, gone int) api.Watch {
	return only(w, func(id int) bool { return id != gone })
}

// among returns a watch with the words that have some IDs alone.
func among(w api.Watch, ids []int) api.Watch {
	return only(w, func(id int) bool { return slices.Contains(ids, id) })
}
