package watch_test

import (
	"slices"
	"testing"

	"drowner/api"
	"drowner/watch"
)

// Arguments are neither modified nor kept, and results are new memory (R6).

// roomy returns a watch with room behind its words, in which there is much to sort.
func roomy() api.Watch {
	w := broken()
	slices.Reverse(w.Words)
	w.Words = slices.Grow(w.Words, 5)
	return w
}

// isZero reports whether there is nothing behind a list.
func isZero[T comparable](l []T) bool {
	var zero T
	return !slices.ContainsFunc(l[:cap(l)][len(l):], func(x T) bool { return x != zero })
}

func TestArgumentsStay(t *testing.T) {
	fine := roomy()
	fine.Words = slices.DeleteFunc(fine.Words, func(x api.Word) bool { return x.ID == 4 })
	for _, w := range []api.Watch{roomy(), fine} {
		before := w
		before.Words = slices.Clone(w.Words)
		l, _ := watch.Ages(w)
		for _, ids := range [][]int{{3, 4}, {1, 2}, {2, 1}} {
			q := good()
			q.w, q.ages = w, copyAges(l)
			q.course = slices.Grow(drawn("....ooo..."), 9)
			q.allowed = slices.Grow(spans(span(1, 2), span(5, 7)), 9)
			q.ids = slices.Grow(slices.Clone(ids), 9)
			for _, c := range calls() {
				c.do(q)
				if !sameWatch(w, before) || !isZero(w.Words) || !slices.Equal(q.ids, ids) || !isZero(q.ids) {
					t.Fatal(c.name, w, q.ids)
				}
				if !slices.Equal(q.course, drawn("....ooo...")) || !isZero(q.course) || !sameAges(q.ages, l) {
					t.Fatal(c.name, q.course, q.ages)
				}
				if !slices.Equal(q.allowed, spans(span(1, 2), span(5, 7))) || !isZero(q.allowed) {
					t.Fatal(c.name, q.allowed)
				}
			}
			watch.Keeps(w.Hatch, q.course)
			if !slices.Equal(q.course, drawn("....ooo...")) || !isZero(q.course) {
				t.Fatal(q.course)
			}
		}
	}
}

// fill writes into all of a list, and behind it.
func fill[T any](l []T, x T) {
	l = l[:cap(l)]
	for i := range l {
		l[i] = x
	}
}

// Results share nothing with each other, and nothing with later ones.
func TestResultsAreNew(t *testing.T) {
	w := example()
	a, b, _ := watch.Surely(w)
	fill(a, span(-9, -9))
	if !slices.Equal(b, spans(span(0, 1), span(8, 8))) {
		t.Error(b)
	}
	fill(b, span(-9, -9))
	c, d, _ := watch.Surely(w)
	if !slices.Equal(c, spans(span(4, 4))) || !slices.Equal(d, spans(span(0, 1), span(8, 8))) {
		t.Error(c, d)
	}
	for _, find := range []func() []bool{
		func() []bool { c, _ := watch.Find(w); return c },
		func() []bool { _, c, _ := watch.Least(w, span(0, 9)); return c },
		func() []bool { _, c, _ := watch.Most(w, span(0, 9)); return c },
		func() []bool { _, c, _ := watch.Calm(w); return c },
		func() []bool { _, c, _, _ := watch.Stolen(w, spans(span(0, 9))); return c },
		func() []bool { _, c, _ := watch.Loss(w, nil); return c },
	} {
		a, b := find(), find()
		before := slices.Clone(a)
		fill(a, !a[0])
		if !slices.Equal(b, before) || !slices.Equal(find(), before) {
			t.Error(b, before)
		}
	}
	for _, find := range []func() []int{
		func() []int { l, _ := watch.Core(broken()); return l },
		func() []int { l, _ := watch.Suspects(broken()); return l },
		func() []int { l, _ := watch.Rests(w, 4); return l },
		func() []int { l, _, _, _ := watch.Stolen(w, spans(span(4, 5))); return l },
	} {
		a, b := find(), find()
		fill(a, -9)
		if len(b) == 0 || slices.Contains(b, -9) || slices.Contains(find(), -9) {
			t.Error(a, b)
		}
	}
	if !sameWatch(w, example()) {
		t.Error(w)
	}
}

// Ages of each minute, and of both kinds, are by themselves.
func TestAgesAreNew(t *testing.T) {
	w := watchOf(3, 2, 9)
	right, _ := watch.Ages(w)
	right = copyAges(right)
	for i := range right {
		l, _ := watch.Ages(w)
		fill(l[i].Open, span(-9, -9))
		for j, x := range l {
			if i != j && !slices.Equal(x.Open, right[j].Open) || !slices.Equal(x.Shut, right[j].Shut) {
				t.Error("shared", i, j, x)
			}
		}
		fill(l[i].Shut, span(-9, -9))
		for j, x := range l {
			if i != j && !slices.Equal(x.Shut, right[j].Shut) {
				t.Error("shared", i, j, x)
			}
		}
	}
	if l, _ := watch.Ages(w); !sameAges(l, right) {
		t.Error("kept", l)
	}
}
