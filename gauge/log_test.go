package gauge_test

import (
	"slices"
	"testing"

	"drowner/api"
	"drowner/gauge"
)

// P3.9: items come and go; what is refused changes nothing.
func TestLog(t *testing.T) {
	l, e := gauge.New(meadow())
	if e != api.OK || !sameWell(l.Well(), meadow()) || !l.Agrees() {
		t.Fatal(l, e)
	}
	w := meadow()
	look := func(x api.Look, e api.Errno) {
		t.Helper()
		want(t, "Look", l.Look(x), e)
		if e == api.OK {
			w.Looks = append(w.Looks, x)
		}
	}
	peg := func(x api.Peg, e api.Errno) {
		t.Helper()
		want(t, "Peg", l.Peg(x), e)
		if e == api.OK {
			w.Pegs = append(w.Pegs, x)
		}
	}
	agrees := func(is bool) {
		t.Helper()
		if !sameWell(l.Well(), w) || l.Agrees() != is {
			t.Error(l.Well(), w, l.Agrees())
		}
	}
	peg(api.Peg{ID: 4, Minute: 15, Span: span(62, 70)}, api.OK)
	agrees(true)
	look(api.Look{ID: 5, Gauge: 7, Minute: 2, Shown: 90}, api.OK)
	agrees(false)
	for _, x := range []api.Look{{ID: 6, Gauge: 8}, {ID: 6, Gauge: 7, Minute: -1}, {ID: 0, Gauge: 7, Minute: 1}, {ID: 6, Gauge: 7, Minute: 1, Shown: 451}, {}} {
		look(x, api.ErrArg)
	}
	for _, x := range []api.Look{{ID: 1, Gauge: 7, Minute: 1}, {ID: 4, Gauge: 7, Minute: 1}, {ID: 6, Gauge: 7, Minute: 2}, {ID: 6, Gauge: 7, Minute: 20, Shown: 80}} {
		look(x, api.ErrTwice)
	}
	for _, x := range []api.Peg{{ID: 6, Span: span(1, 0)}, {ID: 6, Minute: api.MaxMinute + 1}, {}} {
		peg(x, api.ErrArg)
	}
	peg(api.Peg{ID: 5}, api.ErrTwice)
	peg(api.Peg{ID: 4, Minute: 3}, api.ErrTwice)
	for _, id := range []int{0, 6, 7, -1, far} {
		want(t, "Take", l.Take(id), api.ErrNone)
	}
	agrees(false)
	want(t, "Take", l.Take(5), api.OK)
	w = less(w, 5)
	agrees(true)
	want(t, "Take again", l.Take(5), api.ErrNone)
	want(t, "Take", l.Take(4), api.OK)
	want(t, "Take", l.Take(1), api.OK)
	w = less(less(w, 4), 1)
	agrees(false) // the reading 2 cannot stick without the first one
	look(api.Look{ID: 1, Gauge: 7, Shown: 51}, api.OK)
	agrees(false)
	want(t, "Take", l.Take(1), api.OK)
	w = less(w, 1)
	look(api.Look{ID: 1, Gauge: 7, Shown: 50}, api.OK) // stands behind the others
	agrees(true)
}

// P3.9: the limits hold for logs.
func TestLogLimits(t *testing.T) {
	w := meadow()
	w.Looks, w.Pegs = looks(api.MaxLooks), pegs(api.MaxPegs)
	l, e := gauge.New(w)
	if e != api.OK {
		t.Fatal(e)
	}
	want(t, "a reading more", l.Look(api.Look{ID: 90, Gauge: 7, Minute: 100}), api.ErrLimit)
	want(t, "a peg more", l.Peg(api.Peg{ID: 90}), api.ErrLimit)
	if !sameWell(l.Well(), w) {
		t.Error(l.Well())
	}
	want(t, "one goes", l.Take(3), api.OK)
	want(t, "one comes", l.Look(api.Look{ID: 90, Gauge: 7, Minute: 100}), api.OK)
	want(t, "a peg goes", l.Take(105), api.OK)
	want(t, "a peg comes", l.Peg(api.Peg{ID: 3}), api.OK)
	w.Top = 0
	l, e = gauge.New(w)
	if l != nil || e != api.ErrArg {
		t.Error(l, e)
	}
	l, e = gauge.New(broken()) // a well is right even if nothing explains it
	if e != api.OK || l.Agrees() {
		t.Error(l, e)
	}
}

// told is what does not depend on the order of a well's items.
type told struct {
	live, stuck, rests, suspects []int
	count                        int
	ends                         []api.Span
	reach                        [][]api.Stand
	errors                       []api.Errno
}

func tellOf(w api.Well) told {
	var x told
	var e [6]api.Errno
	x.live, e[0] = gauge.Live(w)
	x.stuck, e[1] = gauge.Stuck(w)
	x.count, e[2] = gauge.Count(w)
	x.rests, e[3] = gauge.Rests(w, 3)
	x.suspects, e[4] = gauge.Suspects(w)
	x.reach, e[5] = gauge.Reach(w)
	x.errors = e[:]
	for minute := range 7 {
		r, e := gauge.Of(w, minute)
		x.ends = append(x.ends, r.Span)
		x.errors = append(x.errors, e)
	}
	return x
}

func sameTold(a, b told) bool {
	return slices.Equal(a.live, b.live) && slices.Equal(a.stuck, b.stuck) && slices.Equal(a.rests, b.rests) && slices.Equal(a.suspects, b.suspects) && a.count == b.count && slices.Equal(a.ends, b.ends) && sameStands(a.reach, b.reach) && slices.Equal(a.errors, b.errors)
}

// P3.15: items in any order, in a well or into a log, with others that come and go.
func TestInAnyOrder(t *testing.T) {
	r := chance(13)
	eachWell(t, 14, 400, func(w api.Well, all []api.Tale) {
		x := tellOf(w)
		a := w
		a.Looks, a.Pegs = slices.Clone(w.Looks), slices.Clone(w.Pegs)
		r.Shuffle(len(a.Looks), func(i, j int) { a.Looks[i], a.Looks[j] = a.Looks[j], a.Looks[i] })
		r.Shuffle(len(a.Pegs), func(i, j int) { a.Pegs[i], a.Pegs[j] = a.Pegs[j], a.Pegs[i] })
		if y := tellOf(a); !sameTold(x, y) {
			t.Error("in another order", x, y)
		}
		l, e := gauge.New(api.Well{Top: w.Top, Rise: w.Rise, Fall: w.Fall, Gauges: w.Gauges})
		if e != api.OK {
			t.Fatal(e)
		}
		for _, p := range a.Pegs {
			want(t, "Peg", l.Peg(p), api.OK)
		}
		want(t, "one that goes", l.Look(api.Look{ID: 500, Gauge: w.Gauges[0].ID, Minute: 99, Shown: 400}), api.OK)
		want(t, "a peg that goes", l.Peg(api.Peg{ID: 501, Minute: 2, Span: span(400, 400)}), api.OK)
		for _, v := range a.Looks {
			want(t, "Look", l.Look(v), api.OK)
		}
		if l.Agrees() {
			t.Error("agrees with what cannot be")
		}
		want(t, "Take", l.Take(500), api.OK)
		want(t, "Take", l.Take(501), api.OK)
		if y := tellOf(l.Well()); !sameTold(x, y) || l.Agrees() != (len(all) > 0) {
			t.Error("by a log", x, y)
		}
	})
}
