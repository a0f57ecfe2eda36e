package watch

import (
	"slices"

	"drowner/api"
)

// Core returns words that contradict each other, none of which can be left out.
func Core(w api.Watch) ([]int, api.Errno) {
	if e := Check(w); e != api.OK {
		return nil, e
	}
	if !isClash(w) {
		return nil, api.ErrNone
	}
	return core(w, isClash), api.OK
}

func isClash(w api.Watch) bool { return walkOf(w).isClash() }

// core returns words that are left of those of a watch, of which something is so, if each one without which it still is so is left out.
func core(w api.Watch, is func(api.Watch) bool) []int {
	ids := idsOf(w)
	for _, id := range ids {
		if less := without(w, id); is(less) {
			w = less
		}
	}
	return idsOf(w)
}

// CheckCore returns OK if words contradict each other.
func CheckCore(w api.Watch, ids []int) api.Errno {
	if e := Check(w); e != api.OK {
		return e
	}
	return checkCore(w, ids, isClash)
}

// checkCore returns OK if something is so of a watch with the words that have some IDs alone.
func checkCore(w api.Watch, ids []int, is func(api.Watch) bool) api.Errno {
	if !areWords(w, ids) {
		return api.ErrArg
	}
	if !is(among(w, ids)) {
		return api.ErrProof
	}
	return api.OK
}

// areWords reports whether IDs are those of words, in increasing order.
func areWords(w api.Watch, ids []int) bool {
	all := idsOf(w)
	for i, id := range ids {
		if !slices.Contains(all, id) || i > 0 && id <= ids[i-1] {
			return false
		}
	}
	return true
}

// Suspects returns the words without each of which there is a course.
func Suspects(w api.Watch) ([]int, api.Errno) {
	if e := Check(w); e != api.OK {
		return nil, e
	}
	if !isClash(w) {
		return nil, api.OK
	}
	return wordsBut(w, func(less api.Watch) bool { return !isClash(less) }), api.OK
}

// Rests returns the words without each of which it could have been otherwise in a minute.
func Rests(w api.Watch, minute int) ([]int, api.Errno) {
	if e := checkMinute(w, minute); e != api.OK {
		return nil, e
	}
	all := choices(w)
	if len(all) == 0 {
		return nil, api.ErrClash
	}
	return wordsBut(w, func(less api.Watch) bool { return choices(less)[minute] != all[minute] }), api.OK
}

// wordsBut returns the IDs of the words, in increasing order, without each of which alone something is so of a watch.
func wordsBut(w api.Watch, is func(less api.Watch) bool) []int {
	return slices.DeleteFunc(idsOf(w), func(id int) bool { return !is(without(w, id)) })
}
