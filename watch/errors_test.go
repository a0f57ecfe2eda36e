package watch_test

import (
	"testing"

	"drowner/api"
	"drowner/watch"
)

// question is what a function is asked: a watch, and what else there is.
type question struct {
	w       api.Watch
	course  []bool
	minute  int
	s       api.Span
	allowed []api.Span
	ids     []int
	ages    []api.Ages
	open    bool
}

// good returns a question with which no function finds an error but Core, which finds a course, and those of proofs.
func good() question {
	return question{w: example(), course: make([]bool, 10), minute: 4, s: span(2, 5), allowed: spans(span(2, 5)), ids: []int{1, 2}, ages: make([]api.Ages, 10)}
}

// bad returns a question in which all but the watch is wrong.
func bad(w api.Watch) question {
	return question{w: w, course: make([]bool, 500), minute: -1, s: span(5, 4), allowed: spans(span(5, 4)), ids: []int{99}}
}

// call is a function of the chapter with a watch; it returns the error, and whether all else is zero.
type call struct {
	name                                     string
	minute, span, allowed, ids, course, ages bool // what it has
	last                                     api.Errno
	clash                                    api.Errno // the error for a watch without a course
	do                                       func(q question) (api.Errno, bool)
}

func bare(e api.Errno) (api.Errno, bool) { return e, true }

func list[T any](l []T, e api.Errno) (api.Errno, bool) { return e, len(l) == 0 }

func number(n int, c []bool, e api.Errno) (api.Errno, bool) { return e, n == 0 && len(c) == 0 }

func calls() []call {
	return []call{
		{name: "Check", do: func(q question) (api.Errno, bool) { return bare(watch.Check(q.w)) }},
		{name: "Fits", course: true, do: func(q question) (api.Errno, bool) {
			id, is, e := watch.Fits(q.w, q.course)
			return e, id == 0 && !is
		}},
		{name: "Find", clash: api.ErrClash, do: func(q question) (api.Errno, bool) { return list(watch.Find(q.w)) }},
		{name: "Can", minute: true, clash: api.ErrClash, do: func(q question) (api.Errno, bool) {
			a, b, e := watch.Can(q.w, q.minute)
			return e, !a && !b
		}},
		{name: "Surely", clash: api.ErrClash, do: func(q question) (api.Errno, bool) {
			a, b, e := watch.Surely(q.w)
			return e, len(a)+len(b) == 0
		}},
		{name: "Least", span: true, clash: api.ErrClash, do: func(q question) (api.Errno, bool) { return number(watch.Least(q.w, q.s)) }},
		{name: "Most", span: true, clash: api.ErrClash, do: func(q question) (api.Errno, bool) { return number(watch.Most(q.w, q.s)) }},
		{name: "Calm", clash: api.ErrClash, do: func(q question) (api.Errno, bool) { return number(watch.Calm(q.w)) }},
		{name: "Core", last: api.ErrNone, do: func(q question) (api.Errno, bool) { return list(watch.Core(q.w)) }},
		{name: "CheckCore", ids: true, last: api.ErrProof, clash: api.ErrProof, do: func(q question) (api.Errno, bool) { return bare(watch.CheckCore(q.w, q.ids)) }},
		{name: "Suspects", do: func(q question) (api.Errno, bool) { return list(watch.Suspects(q.w)) }},
		{name: "Rests", minute: true, clash: api.ErrClash, do: func(q question) (api.Errno, bool) { return list(watch.Rests(q.w, q.minute)) }},
		{name: "Stolen", allowed: true, clash: api.ErrClash, do: func(q question) (api.Errno, bool) {
			l, c, is, e := watch.Stolen(q.w, q.allowed)
			return e, len(l)+len(c) == 0 && !is
		}},
		{name: "CheckStolen", allowed: true, ids: true, last: api.ErrProof, clash: api.ErrProof, do: func(q question) (api.Errno, bool) {
			return bare(watch.CheckStolen(q.w, q.allowed, q.ids))
		}},
		{name: "Loss", allowed: true, clash: api.ErrClash, do: func(q question) (api.Errno, bool) { return number(watch.Loss(q.w, q.allowed)) }},
		{name: "Ages", do: func(q question) (api.Errno, bool) { return list(watch.Ages(q.w)) }},
		{name: "CheckAges", minute: true, ages: true, last: api.ErrProof, clash: api.ErrProof, do: func(q question) (api.Errno, bool) {
			return bare(watch.CheckAges(q.w, q.ages, q.minute, q.open))
		}},
	}
}

// wrong fails a test unless a function returns an error, and nothing else.
func wrong(t *testing.T, c call, q question, wanted api.Errno) {
	t.Helper()
	if e, zero := c.do(q); e != wanted || !zero {
		t.Error(c.name, q, e, wanted, zero)
	}
}

func TestLastErrors(t *testing.T) {
	for _, c := range calls() {
		if e, zero := c.do(good()); e != c.last || e != api.OK && !zero {
			t.Error(c.name, e, zero)
		}
		q := good()
		q.w = broken()
		if e, zero := c.do(q); e != c.clash || e != api.OK && !zero {
			t.Error(c.name, e, zero)
		}
	}
}

// The error of the watch comes first, whatever else is wrong.
func TestWatchesFirst(t *testing.T) {
	for _, c := range calls() {
		for _, x := range badWatches() {
			q := good()
			q.w = x.w
			wrong(t, c, q, x.want)
			wrong(t, c, bad(x.w), x.want)
		}
	}
}

// Then that of a minute or a span, also if there is no course, and whatever the ages are.
func TestMinutesNext(t *testing.T) {
	for _, c := range calls() {
		for _, w := range []api.Watch{example(), broken()} {
			for _, m := range []int{-1, 10, 400, -1 << 63, 1<<63 - 1} {
				q := good()
				q.w, q.minute = w, m
				if c.minute {
					wrong(t, c, q, api.ErrArg)
				}
			}
			for _, s := range spans(span(-1, 3), span(3, 10), span(4, 3), span(10, 10), span(-2, -1), span(-1<<63, 1<<63-1), span(1<<63-1, -1<<63)) {
				q := good()
				q.w, q.s = w, s
				if c.span {
					wrong(t, c, q, api.ErrArg)
				}
			}
			for m := range 10 {
				q := good()
				q.w, q.minute, q.s = w, m, span(m, 9)
				if e, _ := c.do(q); e == api.ErrArg && (c.minute || c.span) {
					t.Error(c.name, w, m, e)
				}
			}
		}
	}
}

// Then that of minutes that are allowed, also if there is no course, and whatever the IDs are.
func TestAllowedNext(t *testing.T) {
	for _, c := range calls() {
		if !c.allowed {
			continue
		}
		for _, w := range []api.Watch{example(), broken()} {
			for _, x := range badAllowed() {
				q := good()
				q.w, q.allowed = w, x.allowed
				wrong(t, c, q, x.want)
				q.ids = []int{99}
				wrong(t, c, q, x.want)
			}
		}
	}
}

// Then that of IDs, or of a course.
func TestIDsNext(t *testing.T) {
	for _, c := range calls() {
		for _, ids := range [][]int{{99}, {2, 1}, {1, 1}, {0}, {-1, 1}} {
			q := good()
			q.ids = ids
			if c.ids {
				wrong(t, c, q, api.ErrArg)
			}
		}
		for _, long := range []int{0, 1, 9, 11, 402} {
			q := good()
			q.course = make([]bool, long)
			if c.course {
				wrong(t, c, q, api.ErrArg)
			}
		}
		for _, long := range []int{0, 1, 9, 11, 402} {
			q := good()
			q.ages = make([]api.Ages, long)
			if c.ages {
				wrong(t, c, q, api.ErrProof)
			}
		}
	}
}
