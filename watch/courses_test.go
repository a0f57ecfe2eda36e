package watch_test

import (
	"math/rand/v2"
	"slices"
	"testing"

	"drowner/api"
	"drowner/watch"
)

// P7.2: Find, Can and Surely, in all courses.
func TestCourses(t *testing.T) {
	none, some := 0, 0
	small(10, 1500, func(r *rand.Rand, w api.Watch) {
		all := courses(w)
		c, e := watch.Find(w)
		open, shut, f := watch.Surely(w)
		if len(all) == 0 {
			none++
			if len(c)+len(open)+len(shut) > 0 || e != api.ErrClash || f != api.ErrClash {
				t.Fatal(w, c, e, open, shut, f)
			}
		} else {
			some++
			if !slices.Equal(c, all[0]) || e != api.OK || f != api.OK {
				t.Fatal(w, c, e, f, all[0])
			}
		}
		for m := range w.Last + 1 {
			yes, no, e := watch.Can(w, m)
			a, b := canAt(all, m)
			if yes != a || no != b || (e == api.ErrClash) != (len(all) == 0) || e != api.OK && e != api.ErrClash {
				t.Fatal(w, m, yes, no, e)
			}
		}
		if len(all) == 0 {
			return
		}
		sure := spansWhere(w.Last, func(m int) bool { _, no := canAt(all, m); return !no })
		never := spansWhere(w.Last, func(m int) bool { yes, _ := canAt(all, m); return !yes })
		if !slices.Equal(open, sure) || !slices.Equal(shut, never) {
			t.Fatal(w, open, shut, sure, never)
		}
	})
	if none < 100 || some < 500 {
		t.Error("only", none, some)
	}
}

// P7.3, P7.9, P7.10: Least, Most and Calm, in all courses.
func TestNumbers(t *testing.T) {
	none, wide := 0, 0
	small(11, 800, func(r *rand.Rand, w api.Watch) {
		all := courses(w)
		lo := r.IntN(w.Last + 1)
		for _, s := range spans(span(0, w.Last), span(lo, lo), span(lo, lo+r.IntN(w.Last+1-lo))) {
			in := func(c []bool) int { return openIn(c, s) }
			a, c, e := watch.Least(w, s)
			b, d, f := watch.Most(w, s)
			if len(all) == 0 {
				none++
				if a != 0 || b != 0 || len(c)+len(d) > 0 || e != api.ErrClash || f != api.ErrClash {
					t.Fatal(w, s, a, c, e, b, d, f)
				}
				continue
			}
			l := values(all, in)
			if e != api.OK || a != slices.Min(l) || !isCourse(w, c) || in(c) != a {
				t.Fatal(w, s, a, c, e)
			}
			if f != api.OK || b != slices.Max(l) || !isCourse(w, d) || in(d) != b {
				t.Fatal(w, s, b, d, f)
			}
			if b > a+1 {
				wide++
			}
		}
		n, c, e := watch.Calm(w)
		if len(all) == 0 {
			if n != 0 || len(c) > 0 || e != api.ErrClash {
				t.Fatal(w, n, c, e)
			}
			return
		}
		if e != api.OK || n != slices.Min(values(all, changesOf)) || !isCourse(w, c) || changesOf(c) != n {
			t.Fatal(w, n, c, e)
		}
	})
	if none < 100 || wide < 300 {
		t.Error("only", none, wide)
	}
}

// values returns a number of each course.
func values(all [][]bool, of func(c []bool) int) []int {
	var l []int
	for _, c := range all {
		l = append(l, of(c))
	}
	return l
}

// P7.2, P7.3: great watches, compared with a walk from minute to minute.
func TestLarge(t *testing.T) {
	none, some := 0, 0
	large(12, 60, func(r *rand.Rand, w api.Watch) {
		_, is := cheapest(w, free)
		c, e := watch.Find(w)
		if !is {
			none++
			want(t, "Find", e, api.ErrClash)
			return
		}
		some++
		if e != api.OK || !isCourse(w, c) {
			t.Fatal(w, c, e)
		}
		lo := r.IntN(w.Last + 1)
		s := span(lo, lo+r.IntN(w.Last+1-lo))
		counted := func(m int, open, _ bool) int {
			if open && s.Lo <= m && m <= s.Hi {
				return 1
			}
			return 0
		}
		least, _ := cheapest(w, counted)
		if n, c, e := watch.Least(w, s); n != least || !isCourse(w, c) || openIn(c, s) != n || e != api.OK {
			t.Fatal(w, s, n, c, e, least)
		}
		most, _ := cheapest(w, func(m int, open, changed bool) int { return -counted(m, open, changed) })
		if n, c, e := watch.Most(w, s); n != -most || !isCourse(w, c) || openIn(c, s) != n || e != api.OK {
			t.Fatal(w, s, n, c, e, most)
		}
		calm, _ := cheapest(w, func(_ int, _, changed bool) int {
			if changed {
				return 1
			}
			return 0
		})
		if n, c, e := watch.Calm(w); n != calm || !isCourse(w, c) || changesOf(c) != n || e != api.OK {
			t.Fatal(w, n, c, e, calm)
		}
		for range 5 {
			m := r.IntN(w.Last + 1)
			_, a := cheapest(with(w, word(1, api.WdOpen, m, m)), free)
			_, b := cheapest(with(w, word(1, api.WdShut, m, m)), free)
			if yes, no, e := watch.Can(w, m); yes != a || no != b || e != api.OK {
				t.Fatal(w, m, yes, no, e, a, b)
			}
		}
	})
	if none < 5 || some < 20 {
		t.Error("only", none, some)
	}
}

// P7.2: the first course of a great watch: what is open in it cannot be shut, all minutes ahead of it being so.
func TestFirstOfLarge(t *testing.T) {
	large(13, 25, func(r *rand.Rand, w api.Watch) {
		c, e := watch.Find(w)
		if e != api.OK {
			return
		}
		for m, open := range c {
			if !open || r.IntN(8) > 0 {
				continue
			}
			other := sameUpTo(w, c, m)
			other.Words[len(other.Words)-1] = word(api.MaxID, api.WdShut, m, m)
			if _, is := cheapest(other, free); is {
				t.Fatal(w, c, m)
			}
		}
	})
}

// sameUpTo returns a watch whose courses are the same as one ahead of a minute (whatever is the limit), and a last word that says nothing new.
func sameUpTo(w api.Watch, c []bool, minute int) api.Watch {
	for i, x := range spansWhere(minute-1, func(m int) bool { return c[m] }) {
		w = with(w, word(api.MaxID-1000-i, api.WdOpen, x.Lo, x.Hi))
	}
	for i, x := range spansWhere(minute-1, func(m int) bool { return !c[m] }) {
		w = with(w, word(api.MaxID-2000-i, api.WdShut, x.Lo, x.Hi))
	}
	return with(w, word(api.MaxID, api.WdOpen, minute, minute))
}

// A hatch that must stay as it is for longer than the watch may still be changed once, or twice if the last run is cut off.
func TestCourseEdges(t *testing.T) {
	for _, x := range []struct {
		w    api.Watch
		c    string // empty: there is none
		calm int
	}{
		{watchOf(1, 1, 0), ".", 0},
		{watchOf(60, 60, 0, word(1, api.WdOpen, 0, 0)), "o", 0},
		{watchOf(60, 60, 0, word(1, api.WdOpened, 0, 0)), "", 0},
		{watchOf(60, 60, 0, word(1, api.WdClosed, 0, 0)), "", 0},
		{watchOf(60, 60, 4, word(1, api.WdOpened, 0, 4)), "....o", 1},
		{watchOf(60, 60, 4, word(1, api.WdOpened, 0, 1)), ".oooo", 1},
		{watchOf(60, 60, 4, word(1, api.WdClosed, 0, 4)), "o....", 1},
		{watchOf(60, 60, 4, word(1, api.WdOpened, 0, 4), word(2, api.WdClosed, 0, 4)), "", 0},
		{watchOf(3, 60, 4, word(1, api.WdOpened, 0, 4), word(2, api.WdClosed, 0, 4)), ".ooo.", 2},
		{watchOf(4, 60, 4, word(1, api.WdOpened, 0, 4), word(2, api.WdClosed, 0, 4)), "", 0},
		{watchOf(60, 3, 4, word(1, api.WdOpened, 0, 4), word(2, api.WdClosed, 0, 4)), "o...o", 2},
		{watchOf(1, 1, 4, word(1, api.WdOpened, 2, 2), word(2, api.WdOpened, 4, 4)), "..o.o", 3},
		{watchOf(1, 1, 4, word(1, api.WdOpened, 1, 4), word(2, api.WdOpened, 1, 4)), "....o", 1},
		{watchOf(1, 1, 4, word(1, api.WdOpened, 1, 2), word(2, api.WdClosed, 2, 3), word(3, api.WdOpened, 3, 4)), "..o.o", 3},
		{watchOf(1, 1, 4, word(1, api.WdOpen, 0, 4), word(2, api.WdShut, 4, 4)), "", 0},
		{watchOf(2, 2, 5, word(1, api.WdOpen, 1, 1), word(2, api.WdOpen, 4, 4)), ".oooo.", 0},
		{watchOf(2, 2, 5, word(1, api.WdOpen, 1, 1), word(2, api.WdOpen, 4, 4), word(3, api.WdClosed, 0, 5)), ".oooo.", 1},
		{watchOf(3, 2, 9, word(1, api.WdOpen, 4, 4)), "....ooo...", 0},
	} {
		c, e := watch.Find(x.w)
		n, d, f := watch.Calm(x.w)
		if x.c == "" {
			if len(c) > 0 || n != 0 || e != api.ErrClash || f != api.ErrClash {
				t.Error(x, c, e, n, f)
			}
			continue
		}
		if !slices.Equal(c, drawn(x.c)) || e != api.OK || n != x.calm || f != api.OK || !isCourse(x.w, d) || changesOf(d) != n {
			t.Error(x, c, e, n, d, f)
		}
	}
}

// The chapter's examples.
func TestExamples(t *testing.T) {
	w := example()
	if c, e := watch.Find(w); !slices.Equal(c, drawn("....ooo...")) || e != api.OK {
		t.Error(c, e)
	}
	open, shut, e := watch.Surely(w)
	if !slices.Equal(open, spans(span(4, 4))) || !slices.Equal(shut, spans(span(0, 1), span(8, 8))) || e != api.OK {
		t.Error(open, shut, e)
	}
	a, _, e := watch.Least(w, span(0, 9))
	b, _, f := watch.Most(w, span(0, 9))
	c, _, g := watch.Calm(w)
	if a != 3 || b != 6 || c != 2 || e != api.OK || f != api.OK || g != api.OK {
		t.Error(a, b, c, e, f, g)
	}
	for m, wanted := range map[int][]int{4: {2}, 9: nil} {
		if l, e := watch.Rests(w, m); !slices.Equal(l, wanted) || e != api.OK {
			t.Error(m, l, e)
		}
	}
	if l, c, is, e := watch.Stolen(w, spans(span(2, 5))); is || len(l) > 0 || e != api.OK || stolenIn(c, spans(span(2, 5))) > 0 || !isCourse(w, c) {
		t.Error(l, c, is, e)
	}
	if l, c, is, e := watch.Stolen(w, spans(span(4, 5))); !is || !slices.Equal(l, []int{2}) || e != api.OK || len(c) > 0 {
		t.Error(l, c, is, e)
	}
	for _, s := range spans(span(4, 5), span(5, 7)) {
		if n, c, e := watch.Loss(w, spans(s)); n != 1 || e != api.OK || !isCourse(w, c) || stolenIn(c, spans(s)) != 1 {
			t.Error(s, n, c, e)
		}
	}
	_, e = watch.Find(broken())
	want(t, "Find", e, api.ErrClash)
	if l, e := watch.Core(broken()); !slices.Equal(l, []int{3, 4}) || e != api.OK {
		t.Error(l, e)
	}
	l, e := watch.Ages(w)
	if e != api.OK || len(l) != 10 || !slices.Equal(l[3].Open, spans(span(1, 2))) || !slices.Equal(l[3].Shut, spans(span(2, 2))) {
		t.Error(l, e)
	}
}
