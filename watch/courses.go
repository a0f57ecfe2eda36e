package watch

import "drowner/api"

// Find returns the first course.
func Find(w api.Watch) ([]bool, api.Errno) {
	if e := Check(w); e != api.OK {
		return nil, e
	}
	_, c, e := walkOf(w).searched(evenly).course()
	return c, e
}

// choice is whether some course is open in a minute, and whether some course is not.
type choice struct{ open, shut bool }

// choices returns what courses do in each minute, nothing if there is no course.
func choices(w api.Watch) []choice {
	f := walkOf(w).searched(evenly)
	if f.isEmpty() {
		return nil
	}
	l := make([]choice, w.Last+1)
	for s, x := range f.found {
		if !x.ends {
			continue
		}
		for to := range f.steps(s) {
			if f.found[to].ends {
				mark(l[s.minute+1:to.minute+1], to.open)
			}
		}
	}
	return l
}

// mark notes that some course is so in minutes.
func mark(l []choice, open bool) {
	for i := range l {
		l[i].open = l[i].open || open
		l[i].shut = l[i].shut || !open
	}
}

// Can reports whether the hatch can have been open in a minute, and shut.
func Can(w api.Watch, minute int) (bool, bool, api.Errno) {
	if e := checkMinute(w, minute); e != api.OK {
		return false, false, e
	}
	l := choices(w)
	if len(l) == 0 {
		return false, false, api.ErrClash
	}
	return l[minute].open, l[minute].shut, api.OK
}

// Surely returns the minutes in which the hatch was open in all courses, and those in which it was shut.
func Surely(w api.Watch) ([]api.Span, []api.Span, api.Errno) {
	if e := Check(w); e != api.OK {
		return nil, nil, e
	}
	l := choices(w)
	if len(l) == 0 {
		return nil, nil, api.ErrClash
	}
	open := spansOf(w.Last, func(minute int) bool { return !l[minute].shut })
	shut := spansOf(w.Last, func(minute int) bool { return !l[minute].open })
	return open, shut, api.OK
}

// Least returns in how many minutes of a span it was open at least, and a course.
func Least(w api.Watch, s api.Span) (int, []bool, api.Errno) {
	if e := checkSpan(w, s); e != api.OK {
		return 0, nil, e
	}
	return walkOf(w).searched(openFor(func(minute int) bool { return has(s, minute) })).course()
}

// Most returns in how many minutes of a span it was open at most, and a course.
func Most(w api.Watch, s api.Span) (int, []bool, api.Errno) {
	if e := checkSpan(w, s); e != api.OK {
		return 0, nil, e
	}
	weigh := openFor(func(minute int) bool { return has(s, minute) })
	n, c, e := walkOf(w).searched(func(from, to state) int { return -weigh(from, to) }).course()
	return -n, c, e
}

// openFor returns what tells in how many minutes, of those that count, the hatch is open in a step.
func openFor(counts func(minute int) bool) func(from, to state) int {
	return func(from, to state) int {
		n := 0
		for m := from.minute + 1; to.open && m <= to.minute; m++ {
			if counts(m) {
				n++
			}
		}
		return n
	}
}

// Calm returns how often it was opened or shut at least, and a course.
func Calm(w api.Watch) (int, []bool, api.Errno) {
	if e := Check(w); e != api.OK {
		return 0, nil, e
	}
	return walkOf(w).searched(func(from, to state) int {
		if from.changes(to) {
			return 1
		}
		return 0
	}).course()
}
