package watch_test

import (
	"math/rand/v2"
	"slices"
	"testing"

	"drowner/api"
	"drowner/watch"
)

// ageOf returns the age of a course at its last minute.
func ageOf(h api.Hatch, c []bool) int {
	need := needed(h, c[len(c)-1])
	n := 1
	for n < len(c) && c[len(c)-1-n] == c[len(c)-1] {
		n++
	}
	if n == len(c) {
		return need
	}
	return min(n, need)
}

// agesIn returns the ages at a minute, in all courses up to it.
func agesIn(w api.Watch, minute int) api.Ages {
	open, shut := map[int]bool{}, map[int]bool{}
	for _, c := range lists(minute + 1) {
		ok := keepsHatch(w.Hatch, c)
		for m, is := range c {
			ok = ok && !forbidden(w, m, is)
		}
		if !ok {
			continue
		}
		if c[minute] {
			open[ageOf(w.Hatch, c)] = true
		} else {
			shut[ageOf(w.Hatch, c)] = true
		}
	}
	return api.Ages{
		Open: spansWhere(w.Hatch.Open, func(n int) bool { return open[n] }),
		Shut: spansWhere(w.Hatch.Shut, func(n int) bool { return shut[n] }),
	}
}

// P7.7: Ages, in all courses up to each minute.
func TestAges(t *testing.T) {
	gaps, none := 0, 0
	small(40, 400, func(r *rand.Rand, w api.Watch) {
		l, e := watch.Ages(w)
		if e != api.OK || len(l) != w.Last+1 {
			t.Fatal(w, l, e)
		}
		for m, x := range l {
			if wanted := agesIn(w, m); !slices.Equal(x.Open, wanted.Open) || !slices.Equal(x.Shut, wanted.Shut) {
				t.Fatal(w, m, x, wanted)
			}
			if max(len(x.Open), len(x.Shut)) > 1 {
				gaps++
			}
			if len(x.Open)+len(x.Shut) == 0 {
				none++
			}
		}
	})
	if gaps < 50 || none < 50 {
		t.Error("only", gaps, none)
	}
}

func TestAgesEdges(t *testing.T) {
	w := watchOf(3, 2, 4)
	for i, x := range []struct {
		words []api.Word
		want  []api.Ages
	}{
		{nil, []api.Ages{{Open: spans(span(3, 3)), Shut: spans(span(2, 2))}, {Open: spans(span(1, 1), span(3, 3)), Shut: spans(span(1, 2))}, {Open: spans(span(1, 3)), Shut: spans(span(1, 2))}, {Open: spans(span(1, 3)), Shut: spans(span(1, 2))}, {Open: spans(span(1, 3)), Shut: spans(span(1, 2))}}},
		{[]api.Word{word(1, api.WdOpen, 0, 4), word(2, api.WdClosed, 1, 2)}, slices.Repeat([]api.Ages{{Open: spans(span(3, 3))}}, 5)},
		{[]api.Word{word(1, api.WdShut, 0, 0), word(2, api.WdOpen, 1, 2), word(3, api.WdShut, 3, 4)}, []api.Ages{{Shut: spans(span(2, 2))}, {Open: spans(span(1, 1))}, {Open: spans(span(2, 2))}, {}, {}}},
		{[]api.Word{word(1, api.WdShut, 0, 1), word(2, api.WdOpen, 0, 3)}, make([]api.Ages, 5)},
		{[]api.Word{word(1, api.WdShut, 0, 0), word(2, api.WdOpened, 1, 1), word(3, api.WdShut, 1, 4)}, slices.Repeat([]api.Ages{{Shut: spans(span(2, 2))}}, 5)},
	} {
		w.Words = x.words
		if l, e := watch.Ages(w); !sameAges(l, x.want) || e != api.OK {
			t.Error(i, l, e)
		}
	}
	for _, h := range []api.Hatch{{Open: 1, Shut: 1}, {Open: 60, Shut: 60}} {
		w := api.Watch{Hatch: h}
		l, e := watch.Ages(w)
		if !sameAges(l, []api.Ages{{Open: spans(span(h.Open, h.Open)), Shut: spans(span(h.Shut, h.Shut))}}) || e != api.OK {
			t.Error(h, l, e)
		}
		w.Last = api.MaxWatch
		l, e = watch.Ages(w)
		if e != api.OK || len(l) != api.MaxWatch+1 {
			t.Fatal(h, len(l), e)
		}
		if x := l[api.MaxWatch]; !slices.Equal(x.Open, spans(span(1, h.Open))) || !slices.Equal(x.Shut, spans(span(1, h.Shut))) {
			t.Error(h, x)
		}
	}
}

// numbers returns the numbers of spans, and whether these are in order, with a gap between each two, from 1 to the greatest one.
func numbers(l []api.Span, greatest int) (map[int]bool, bool) {
	set := map[int]bool{}
	ok := true
	for i, x := range l {
		ok = ok && x.Lo >= 1 && x.Lo <= x.Hi && x.Hi <= greatest && (i == 0 || x.Lo > l[i-1].Hi+1)
		for n := max(x.Lo, 0); n <= min(x.Hi, 100); n++ {
			set[n] = true
		}
	}
	return set, ok
}

// isAges reports whether ages show that no course is so in a minute, as the chapter says.
func isAges(w api.Watch, l []api.Ages, minute int, open bool) bool {
	if len(l) != w.Last+1 {
		return false
	}
	var sets []map[bool]map[int]bool
	for _, x := range l {
		a, ok := numbers(x.Open, w.Hatch.Open)
		b, fine := numbers(x.Shut, w.Hatch.Shut)
		if !ok || !fine {
			return false
		}
		sets = append(sets, map[bool]map[int]bool{true: a, false: b})
	}
	for m, set := range sets {
		for _, is := range []bool{false, true} {
			need := needed(w.Hatch, is)
			if m == 0 && !forbidden(w, 0, is) && !set[is][need] {
				return false
			}
			for n := range set[is] {
				if m == w.Last {
					continue
				}
				next := sets[m+1]
				if !forbidden(w, m+1, is) && !next[is][min(n+1, need)] || n == need && !forbidden(w, m+1, !is) && !next[!is][1] {
					return false
				}
			}
		}
	}
	return len(sets[minute][open]) == 0
}

// P7.8, P7.13: CheckAges accepts what Ages returns, for just the minutes and states without an age.
func TestCheckAges(t *testing.T) {
	yes, no := 0, 0
	small(41, 300, func(r *rand.Rand, w api.Watch) {
		l, _ := watch.Ages(w)
		all := courses(w)
		for m, x := range l {
			for _, open := range []bool{false, true} {
				list := x.Shut
				if open {
					list = x.Open
				}
				e := watch.CheckAges(w, l, m, open)
				if len(list) > 0 {
					no++
					want(t, "CheckAges", e, api.ErrProof)
					continue
				}
				yes++
				a, b := canAt(all, m)
				if e != api.OK || open && a || !open && b {
					t.Fatal(w, l, m, open, e)
				}
			}
		}
	})
	if yes < 500 || no < 500 {
		t.Error("only", yes, no)
	}
}

// wider returns ages among which there are further ones, and mostly all that comes of them.
func wider(r *rand.Rand, w api.Watch, l []api.Ages) []api.Ages {
	sets := []map[bool]map[int]bool{}
	for _, x := range l {
		a, _ := numbers(x.Open, w.Hatch.Open)
		b, _ := numbers(x.Shut, w.Hatch.Shut)
		sets = append(sets, map[bool]map[int]bool{true: a, false: b})
	}
	for m, set := range sets {
		for _, is := range []bool{false, true} {
			need := needed(w.Hatch, is)
			for n := 1; n <= need; n++ {
				if r.IntN(60) == 0 {
					set[is][n] = true
				}
				if r.IntN(400) == 0 {
					delete(set[is], n)
				}
				if m == w.Last || !set[is][n] {
					continue
				}
				if !forbidden(w, m+1, is) {
					sets[m+1][is][min(n+1, need)] = true
				}
				if n == need && !forbidden(w, m+1, !is) {
					sets[m+1][!is][1] = true
				}
			}
		}
	}
	out := make([]api.Ages, len(l))
	for m, set := range sets {
		out[m].Open = spansWhere(w.Hatch.Open, func(n int) bool { return set[true][n] })
		out[m].Shut = spansWhere(w.Hatch.Shut, func(n int) bool { return set[false][n] })
	}
	return out
}

// spoiled returns ages with some numbers changed.
func spoiled(r *rand.Rand, l []api.Ages) []api.Ages {
	l = copyAges(l)
	x := &l[r.IntN(len(l))]
	list := &x.Open
	if r.IntN(2) == 0 {
		list = &x.Shut
	}
	switch n := r.IntN(6); {
	case n == 0:
		*list = append(*list, span(r.IntN(6)-1, r.IntN(6)-1))
	case len(*list) == 0:
		return l[:len(l)-r.IntN(2)]
	case n == 1:
		(*list)[0].Lo += r.IntN(3) - 1
	case n == 2:
		(*list)[len(*list)-1].Hi += r.IntN(3) - 1
	case n == 3:
		*list = (*list)[1:]
	case n == 4:
		*list = append(*list, (*list)[0])
	case n == 5:
		cut := (*list)[0]
		*list = slices.Insert(*list, 0, span(cut.Lo, cut.Lo))
		(*list)[1].Lo++
	}
	return l
}

// P7.8: CheckAges takes just what shows it, and then it is so.
func TestCheckAgesLikely(t *testing.T) {
	yes, no := 0, 0
	small(42, 400, func(r *rand.Rand, w api.Watch) {
		first, _ := watch.Ages(w)
		all := courses(w)
		for range 10 {
			l := first
			if r.IntN(2) == 0 {
				l = wider(r, w, l)
			}
			if r.IntN(2) == 0 {
				l = spoiled(r, l)
			}
			for m := range w.Last + 1 {
				for _, open := range []bool{false, true} {
					e := watch.CheckAges(w, l, m, open)
					is := isAges(w, l, m, open)
					if is && e != api.OK || !is && e != api.ErrProof {
						t.Fatal(w, l, m, open, e, is)
					}
					if !is {
						no++
						continue
					}
					yes++
					if a, b := canAt(all, m); open && a || !open && b {
						t.Fatal(w, l, m, open)
					}
				}
			}
		}
	})
	if yes < 1000 || no < 1000 {
		t.Error("only", yes, no)
	}
}

// P7.8: each sentence on ages counts by itself. The hatch is shut in the minutes 0 and 1, and open in 3: it is opened in 2 or 3.
func TestCheckAgesSentences(t *testing.T) {
	w := watchOf(3, 2, 4, word(1, api.WdShut, 0, 1), word(2, api.WdOpen, 3, 3))
	right := []api.Ages{
		{Shut: spans(span(2, 2))},
		{Shut: spans(span(2, 2))},
		{Open: spans(span(1, 1)), Shut: spans(span(2, 2))},
		{Open: spans(span(1, 2))},
		{Open: spans(span(2, 3))},
	}
	if l, e := watch.Ages(w); e != api.OK || !sameAges(l, right) {
		t.Fatal(l, e)
	}
	for _, x := range []struct {
		name   string
		change func(l []api.Ages)
		minute int
		open   bool
		want   api.Errno
	}{
		{"not shut in 3", func([]api.Ages) {}, 3, false, api.OK},
		{"not shut in 4", func([]api.Ages) {}, 4, false, api.OK},
		{"not open in 0", func([]api.Ages) {}, 0, true, api.OK},
		{"not open in 3", func([]api.Ages) {}, 3, true, api.ErrProof},
		{"not shut in 2", func([]api.Ages) {}, 2, false, api.ErrProof},
		{"before the first minute", func([]api.Ages) {}, -1, false, api.ErrArg},
		{"behind the last minute", func([]api.Ages) {}, 5, false, api.ErrArg},
		{"without the shut one at 0", func(l []api.Ages) { l[0].Shut = nil }, 3, false, api.ErrProof},
		{"another one at 0", func(l []api.Ages) { l[0].Shut[0] = span(1, 1) }, 3, false, api.ErrProof},
		{"a further one at 0", func(l []api.Ages) { l[0].Shut[0] = span(1, 2) }, 3, false, api.OK},
		{"an open one at 0, which goes no further", func(l []api.Ages) { l[0].Open = spans(span(1, 2)) }, 3, false, api.OK},
		{"an open one at 0, which ends", func(l []api.Ages) { l[0].Open = spans(span(3, 3)) }, 3, false, api.ErrProof},
		{"an open one at 0, with what comes of it", func(l []api.Ages) { l[0].Open, l[1].Shut[0] = spans(span(3, 3)), span(1, 2) }, 3, false, api.OK},
		{"one that words forbid, with what comes of it", func(l []api.Ages) { l[1].Open, l[2].Open = spans(span(1, 1)), spans(span(1, 2)) }, 4, false, api.ErrProof},
		{"one that words forbid, with all that comes of it", func(l []api.Ages) {
			l[1].Open, l[2].Open, l[3].Open = spans(span(1, 1)), spans(span(1, 2)), spans(span(1, 3))
			l[4] = api.Ages{Open: spans(span(2, 3)), Shut: spans(span(1, 1))}
		}, 3, false, api.OK},
		{"one that words forbid, without what comes of it", func(l []api.Ages) { l[1].Open = spans(span(1, 1)) }, 3, false, api.ErrProof},
		{"without one that goes on", func(l []api.Ages) { l[1].Shut = nil }, 3, false, api.ErrProof},
		{"without one that begins", func(l []api.Ages) { l[2].Open = nil }, 3, false, api.ErrProof},
		{"without one that is older", func(l []api.Ages) { l[3].Open[0] = span(1, 1) }, 3, false, api.ErrProof},
		{"without one at the last minute", func(l []api.Ages) { l[4].Open[0] = span(2, 2) }, 3, false, api.ErrProof},
		{"with all at the last minute", func(l []api.Ages) { l[4] = api.Ages{Open: spans(span(1, 3)), Shut: spans(span(1, 2))} }, 3, false, api.OK},
		{"with a gap at the last minute", func(l []api.Ages) { l[4].Shut = spans(span(2, 2)) }, 3, false, api.OK},
		{"with a gap at the minute asked", func(l []api.Ages) { l[4].Shut = spans(span(2, 2)) }, 4, false, api.ErrProof},
		{"spans without a gap", func(l []api.Ages) { l[4].Open = spans(span(2, 2), span(3, 3)) }, 3, false, api.ErrProof},
		{"spans with one", func(l []api.Ages) { l[3].Open, l[4].Open = spans(span(1, 2)), spans(span(1, 3)) }, 3, false, api.OK},
		{"spans in no order", func(l []api.Ages) { l[4].Shut = spans(span(2, 2), span(1, 1)) }, 3, false, api.ErrProof},
		{"a span twice", func(l []api.Ages) { l[4].Open = spans(span(2, 3), span(2, 3)) }, 3, false, api.ErrProof},
		{"no span", func(l []api.Ages) { l[4].Shut = spans(span(2, 1)) }, 3, false, api.ErrProof},
		{"the age 0", func(l []api.Ages) { l[4].Shut = spans(span(0, 0)) }, 3, false, api.ErrProof},
		{"the age 0 and more", func(l []api.Ages) { l[4].Open[0].Lo = 0 }, 3, false, api.ErrProof},
		{"more than open", func(l []api.Ages) { l[4].Open[0].Hi = 4 }, 3, false, api.ErrProof},
		{"more than shut", func(l []api.Ages) { l[4].Shut = spans(span(3, 3)) }, 3, false, api.ErrProof},
		{"the greatest numbers", func(l []api.Ages) { l[4].Shut = spans(span(-1<<63, 1<<63-1)) }, 3, false, api.ErrProof},
		{"the greatest number", func(l []api.Ages) { l[4].Shut = spans(span(1<<63-1, 1<<63-1)) }, 3, false, api.ErrProof},
		{"two of the greatest numbers", func(l []api.Ages) { l[4].Shut = spans(span(1, 1<<63-1), span(-1<<63, 1)) }, 3, false, api.ErrProof},
	} {
		l := copyAges(right)
		x.change(l)
		want(t, x.name, watch.CheckAges(w, l, x.minute, x.open), x.want)
		if is := x.want != api.ErrArg && isAges(w, l, x.minute, x.open); is != (x.want == api.OK) {
			t.Error(x.name, is)
		}
	}
	for _, l := range [][]api.Ages{nil, right[:4], right[1:], append(copyAges(right), api.Ages{}), append(copyAges(right), right...)} {
		want(t, "CheckAges", watch.CheckAges(w, l, 0, true), api.ErrProof)
		want(t, "CheckAges", watch.CheckAges(w, l, 4, false), api.ErrProof)
		want(t, "CheckAges", watch.CheckAges(w, l, 5, false), api.ErrArg)
	}
}

// At the minute 0 what is possible by the words is needed, one by one.
func TestCheckAgesBeginning(t *testing.T) {
	both := []api.Ages{{Open: spans(span(3, 3)), Shut: spans(span(2, 2))}}
	open := []api.Ages{{Open: spans(span(3, 3))}}
	shut := []api.Ages{{Shut: spans(span(2, 2))}}
	none := []api.Ages{{}}
	opened := word(1, api.WdOpened, 0, 0)
	isOpen, isShut := word(2, api.WdOpen, 0, 0), word(3, api.WdShut, 0, 0)
	for i, x := range []struct {
		words []api.Word
		l     []api.Ages
		open  bool
		want  api.Errno
	}{
		{nil, both, true, api.ErrProof},
		{nil, open, false, api.ErrProof},
		{nil, shut, true, api.ErrProof},
		{[]api.Word{opened}, shut, true, api.ErrProof},
		{[]api.Word{opened}, none, true, api.ErrProof},
		{[]api.Word{isOpen}, open, false, api.OK},
		{[]api.Word{isOpen}, none, false, api.ErrProof},
		{[]api.Word{isOpen}, shut, true, api.ErrProof},
		{[]api.Word{isOpen}, both, false, api.ErrProof},
		{[]api.Word{isShut}, shut, true, api.OK},
		{[]api.Word{isShut}, none, true, api.ErrProof},
		{[]api.Word{isShut}, open, false, api.ErrProof},
		{[]api.Word{isOpen, isShut}, none, true, api.OK},
		{[]api.Word{isOpen, isShut}, none, false, api.OK},
		{[]api.Word{isOpen, isShut}, open, false, api.OK},
	} {
		if e := watch.CheckAges(watchOf(3, 2, 0, x.words...), x.l, 0, x.open); e != x.want {
			t.Error(i, e)
		}
	}
}

// P7.13: great watches.
func TestLargeAges(t *testing.T) {
	yes := 0
	large(43, 30, func(r *rand.Rand, w api.Watch) {
		l, e := watch.Ages(w)
		if e != api.OK || len(l) != w.Last+1 {
			t.Fatal(w, e)
		}
		for range 20 {
			m, open := r.IntN(w.Last+1), r.IntN(2) == 0
			e := watch.CheckAges(w, l, m, open)
			if is := isAges(w, l, m, open); is != (e == api.OK) || !is && e != api.ErrProof {
				t.Fatal(w, m, open, e)
			}
			if e != api.OK {
				continue
			}
			yes++
			kind := api.WdShut
			if open {
				kind = api.WdOpen
			}
			if _, f := watch.Find(with(w, word(1, kind, m, m))); f != api.ErrClash {
				t.Fatal(w, m, open, f)
			}
		}
	})
	if yes < 50 {
		t.Error("only", yes)
	}
}
