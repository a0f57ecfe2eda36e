package watch_test

import (
	"math/rand/v2"
	"slices"
	"testing"

	"drowner/api"
	"drowner/watch"
)

// foundIn returns the courses that functions find.
func foundIn(t *testing.T, r *rand.Rand, w api.Watch) [][]bool {
	t.Helper()
	lo := r.IntN(w.Last + 1)
	s := span(lo, lo+r.IntN(w.Last+1-lo))
	allowed := anyAllowed(r, w.Last)
	first, e := watch.Find(w)
	_, least, f := watch.Least(w, s)
	_, most, g := watch.Most(w, s)
	_, calm, h := watch.Calm(w)
	_, loss, i := watch.Loss(w, allowed)
	_, thief, is, j := watch.Stolen(w, allowed)
	for _, x := range []api.Errno{e, f, g, h, i, j} {
		want(t, "a course", x, api.OK)
	}
	all := [][]bool{first, least, most, calm, loss}
	if !is {
		all = append(all, thief)
	}
	return all
}

// P7.9: all functions that return courses return such that fit, and in each it was open as Surely says and Can allows.
func TestFoundCourses(t *testing.T) {
	large(50, 40, func(r *rand.Rand, w api.Watch) {
		open, shut, e := watch.Surely(w)
		if e != api.OK {
			return
		}
		can := map[int][2]bool{}
		for range 30 {
			m := r.IntN(w.Last + 1)
			yes, no, _ := watch.Can(w, m)
			can[m] = [2]bool{yes, no}
			if yes == isAllowed(shut, m) || no == isAllowed(open, m) {
				t.Fatal(w, m, yes, no, open, shut)
			}
		}
		for _, c := range foundIn(t, r, w) {
			if id, is, e := watch.Fits(w, c); id != 0 || !is || e != api.OK || !isCourse(w, c) {
				t.Fatal(w, c, id, is, e)
			}
			for m, is := range c {
				if is && isAllowed(shut, m) || !is && isAllowed(open, m) {
					t.Fatal(w, c, m, open, shut)
				}
				if x, asked := can[m]; asked && (is && !x[0] || !is && !x[1]) {
					t.Fatal(w, c, m, x)
				}
			}
		}
	})
}

// P7.9: for each minute for which Can reports it there is a course, with a further word for it.
func TestCanBe(t *testing.T) {
	yes, no := 0, 0
	large(51, 40, func(r *rand.Rand, w api.Watch) {
		if len(w.Words) == api.MaxWords {
			w.Words = w.Words[1:]
		}
		if _, e := watch.Find(w); e != api.OK {
			return
		}
		for range 20 {
			m := r.IntN(w.Last + 1)
			a, b, _ := watch.Can(w, m)
			for kind, is := range map[int]bool{api.WdOpen: a, api.WdShut: b} {
				if c, e := watch.Find(with(w, word(1, kind, m, m))); is != (e == api.OK) || is && c[m] != (kind == api.WdOpen) {
					t.Fatal(w, m, kind, is, c, e)
				}
				if is {
					yes++
				} else {
					no++
				}
			}
		}
	})
	if yes < 200 || no < 100 {
		t.Error("only", yes, no)
	}
}

// P7.10: the open minutes of each course lie between Least and Most, and for a span in two parts Least is at least the sum of both, and Most at most.
func TestParts(t *testing.T) {
	more, less := 0, 0
	large(52, 60, func(r *rand.Rand, w api.Watch) {
		if _, e := watch.Find(w); e != api.OK {
			return
		}
		lo := r.IntN(w.Last)
		cut := lo + r.IntN(w.Last-lo)
		hi := cut + 1 + r.IntN(w.Last-cut)
		whole, a, b := span(lo, hi), span(lo, cut), span(cut+1, hi)
		least, c, _ := watch.Least(w, whole)
		most, d, _ := watch.Most(w, whole)
		if openIn(c, whole) != least || openIn(d, whole) != most || least > most {
			t.Fatal(w, whole, least, c, most, d)
		}
		la, _, _ := watch.Least(w, a)
		lb, _, _ := watch.Least(w, b)
		ma, _, _ := watch.Most(w, a)
		mb, _, _ := watch.Most(w, b)
		if least < la+lb || most > ma+mb {
			t.Fatal(w, whole, cut, least, la, lb, most, ma, mb)
		}
		if least > la+lb {
			more++
		}
		if most < ma+mb {
			less++
		}
		for _, c := range foundIn(t, r, w) {
			if n := openIn(c, whole); n < least || n > most {
				t.Fatal(w, whole, c, n, least, most)
			}
		}
	})
	if more < 2 || less < 2 {
		t.Error("only", more, less)
	}
}

// The order of the words matters for nothing but which one Fits names.
func TestAnyOrder(t *testing.T) {
	large(53, 25, func(r *rand.Rand, w api.Watch) {
		v := mixed(r, w)
		a, e := watch.Find(v)
		b, f := watch.Find(w)
		if !slices.Equal(a, b) || e != f {
			t.Fatal(w, v, a, b, e, f)
		}
		c, e := watch.Core(v)
		d, f := watch.Core(w)
		if !slices.Equal(c, d) || e != f {
			t.Fatal(w, v, c, d, e, f)
		}
		allowed := anyAllowed(r, w.Last)
		c, _, is, e := watch.Stolen(v, allowed)
		d, _, as, f := watch.Stolen(w, allowed)
		if !slices.Equal(c, d) || is != as || e != f {
			t.Fatal(w, v, c, d, e, f)
		}
		m := r.IntN(w.Last + 1)
		c, e = watch.Rests(v, m)
		d, f = watch.Rests(w, m)
		if !slices.Equal(c, d) || e != f {
			t.Fatal(w, v, m, c, d, e, f)
		}
	})
}

// What is asked twice is told in the same way (R7).
func TestSameAgain(t *testing.T) {
	large(54, 15, func(r *rand.Rand, w api.Watch) {
		if _, e := watch.Find(w); e != api.OK {
			return
		}
		seed := r.Uint64()
		before := foundIn(t, chance(seed), w)
		open, shut, _ := watch.Surely(w)
		ages, _ := watch.Ages(w)
		for range 3 {
			again := foundIn(t, chance(seed), w)
			a, b, _ := watch.Surely(w)
			l, _ := watch.Ages(w)
			if !slices.EqualFunc(before, again, slices.Equal[[]bool]) || !slices.Equal(a, open) || !slices.Equal(b, shut) || !sameAges(l, ages) {
				t.Fatal(w)
			}
		}
	})
}

// The greatest watches there can be are answered, too, in which all five changes may come in any order.
func TestGreatest(t *testing.T) {
	for _, h := range []api.Hatch{{Open: 1, Shut: 1}, {Open: 60, Shut: 60}, {Open: 1, Shut: 60}, {Open: 20, Shut: 40}} {
		w := api.Watch{Hatch: h, Last: api.MaxWatch}
		for i := range api.MaxEvents {
			w.Words = append(w.Words, word(10+i, api.WdOpened+i%2, 10*i, 400-5*i))
		}
		for i := range api.MaxWords - api.MaxEvents - 1 {
			w.Words = append(w.Words, word(100+i, api.WdShut, 8*i, 8*i))
		}
		w.Words = append(w.Words, word(1, api.WdOpen, 300, 300))
		c, e := watch.Find(w)
		_, is := cheapest(w, free)
		if is != (e == api.OK) || is && !isCourse(w, c) {
			t.Error(h, c, e, is)
		}
		if l, e := watch.Core(w); is != (e == api.ErrNone) || is != (len(l) == 0) {
			t.Error(h, l, e)
		}
		l, f := watch.Rests(w, 300)
		if f != e {
			t.Error(h, l, f)
		}
	}
}
