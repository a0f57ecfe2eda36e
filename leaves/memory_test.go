package leaves_test

import (
	"slices"
	"testing"

	"drowner/api"
	"drowner/leaves"
)

// Arguments are neither modified nor kept, and results are new memory (R6).

// isZero reports whether there is nothing behind a list.
func isZero[T comparable](l []T) bool {
	var zero T
	return !slices.ContainsFunc(l[:cap(l)][len(l):], func(x T) bool { return x != zero })
}

func growAll(l []api.Leaf) []api.Leaf {
	for i := range l {
		l[i].Words = slices.Grow(slices.Clone(l[i].Words), 9)
	}
	return slices.Grow(l, 9)
}

// roomy returns a question with room behind all lists.
func roomy() question {
	q := good()
	q.l = growAll(q.l)
	for i := range q.copies {
		q.copies[i] = growAll(q.copies[i])
	}
	q.copies = slices.Grow(q.copies, 9)
	for i := range q.data {
		q.data[i] = slices.Grow(q.data[i], 9)
		q.m.Data[i] = slices.Grow(q.m.Data[i], 9)
	}
	q.data, q.m.Data = slices.Grow(q.data, 9), slices.Grow(q.m.Data, 9)
	q.lines, q.more = slices.Grow(q.lines, 9), slices.Grow(q.more, 9)
	return q
}

func isCleanLeaves(l, before []api.Leaf) bool {
	behind := l[:cap(l)][len(l):]
	return sameLeaves(l, before) && !slices.ContainsFunc(l, func(x api.Leaf) bool { return !isZero(x.Words) }) &&
		!slices.ContainsFunc(behind, func(x api.Leaf) bool { return x.Number != 0 || x.Words != nil })
}

func isCleanRows(l, before [][]int) bool {
	behind := l[:cap(l)][len(l):]
	return sameRows(l, before) && !slices.ContainsFunc(l, func(x []int) bool { return !isZero(x) }) &&
		!slices.ContainsFunc(behind, func(x []int) bool { return x != nil })
}

func isClean(q question) bool {
	b := good()
	for i := range q.copies {
		if !isCleanLeaves(q.copies[i], b.copies[i]) {
			return false
		}
	}
	return isCleanLeaves(q.l, b.l) && isCleanRows(q.data, b.data) && isCleanRows(q.m.Data, b.m.Data) &&
		slices.Equal(q.lines, b.lines) && isZero(q.lines) && slices.Equal(q.more, b.more) && isZero(q.more) &&
		!slices.ContainsFunc(q.copies[:cap(q.copies)][len(q.copies):], func(l []api.Leaf) bool { return l != nil })
}

func TestArgumentsStay(t *testing.T) {
	for _, c := range calls() {
		q := roomy()
		if e, _ := c.do(q); e != api.OK || !isClean(q) {
			t.Error(c.name, e, q)
		}
	}
	c := slices.Grow([]int{5, 6, 7}, 9)
	leaves.Value(c, 3)
	if !slices.Equal(c, []int{5, 6, 7}) || !isZero(c) {
		t.Error(c)
	}
	l := slices.Grow([]api.Dot{dot(3, 5), dot(1, 7), dot(2, 9)}, 9)
	leaves.Through(l)
	if !slices.Equal(l, []api.Dot{dot(3, 5), dot(1, 7), dot(2, 9)}) || !isZero(l) {
		t.Error(l)
	}
	// Wrong leaves stay as they are, too.
	all := growAll(wholeOf(example(), rows(5, 8)))
	all[1].Words[0] = 9
	m := api.Mended{Data: rows(5, 8), Wrong: slices.Grow([]int{2}, 9)}
	want(t, "CheckMend", leaves.CheckMend(example(), all, m), api.OK)
	leaves.Mend(example(), all)
	leaves.Spare(example(), all)
	if !isCleanLeaves(all, []api.Leaf{leaf(1, 5), leaf(2, 9), leaf(3, 11), leaf(4, 14)}) || !isZero(m.Wrong) || m.Wrong[0] != 2 {
		t.Error(all, m)
	}
}

// fill writes into all of a list, and behind it.
func fill[T any](l []T, x T) {
	l = l[:cap(l)]
	for i := range l {
		l[i] = x
	}
}

func wordsIn(l []api.Leaf) [][]int {
	var out [][]int
	for _, x := range l {
		out = append(out, x.Words)
	}
	return out
}

// rowsOf returns all results that are lists of words, by what finds them.
func rowsOf(q question) []func() [][]int {
	return []func() [][]int{
		func() [][]int { l, _ := leaves.Whole(q.s, q.data); return wordsIn(l) },
		func() [][]int { m, _ := leaves.Mend(q.s, q.l); return m.Data },
		func() [][]int { l, _ := leaves.Join(q.s, q.copies); return wordsIn(l) },
		func() [][]int { l, _ := leaves.Join(q.s, q.copies[:1]); return wordsIn(l) },
		func() [][]int { l, _ := leaves.Write(q.s, q.lines); return l },
		func() [][]int { l, _ := leaves.Through([]api.Dot{dot(3, 5), dot(1, 7)}); return [][]int{l} },
		func() [][]int { l, _ := leaves.Forks(q.lines, []api.Line{line(7, 0, 0, 0)}); return [][]int{l} },
	}
}

// Lists of words share nothing with arguments, with each other, or with later ones.
func TestRowsAreNew(t *testing.T) {
	q := roomy()
	for i, find := range rowsOf(q) {
		before := copyRows(find())
		for k := range before {
			a, b := find(), find()
			fill(a[k], -9)
			for j, l := range a {
				if j != k && !slices.Equal(l, before[j]) {
					t.Error("shared", i, j, k, l)
				}
			}
			fill(a, nil)
			if !sameRows(b, before) || !sameRows(find(), before) || !isClean(q) {
				t.Error("kept", i, k, b)
			}
		}
		if len(before) == 0 {
			t.Error(i)
		}
	}
}

// Lists of lines, and of wrong leaves.
func TestResultsAreNew(t *testing.T) {
	q := roomy()
	for i, find := range []func() []api.Line{
		func() []api.Line { l, _ := leaves.Read(q.s, q.data); return l },
		func() []api.Line { l, _ := leaves.Sorted(q.lines); return l },
		func() []api.Line { l, _ := leaves.Known(q.lines, 728); return l },
		func() []api.Line { l, _ := leaves.Known(q.lines, 1); return l },
		func() []api.Line { l, _ := leaves.Merge(q.lines, q.more); return l },
		func() []api.Line { l, _ := leaves.Merge(q.lines, nil); return l },
		func() []api.Line { l, _ := leaves.Merge(nil, q.more); return l },
	} {
		a, b := find(), find()
		before := slices.Clone(a)
		fill(a, line(-9, -9, -9, -9))
		if len(b) == 0 || !slices.Equal(b, before) || !slices.Equal(find(), before) || !isClean(q) {
			t.Error(i, b, before)
		}
	}
	all := wholeOf(example(), rows(5, 8))
	all[1].Words[0] = 9
	a, _ := leaves.Mend(example(), all)
	b, _ := leaves.Mend(example(), all)
	fill(a.Wrong, -9)
	fill(a.Data, nil)
	if !sameMended(b, api.Mended{Data: rows(5, 8), Wrong: []int{2}}) || all[1].Number != 2 {
		t.Error(b)
	}
}

// A shelf keeps nothing of what it is given, and gives out nothing of what it keeps.
func TestShelvesAreTheirOwn(t *testing.T) {
	l := slices.Grow([]api.Line{line(7, 3, 1, 12), line(4, 1, 0, 70000)}, 9)
	before := slices.Clone(l)
	k := newRack(t, shape(2, 2, 8), 3)
	k.store(t, l)
	if !slices.Equal(l, before) || !isZero(l) {
		t.Error(l)
	}
	fill(l, line(9, 9, 9, 9))
	k.check(t)
	k.tear(t, 1, 2)
	for n := range 3 {
		for range 2 {
			c := k.x.Copy(n)
			for i, x := range c {
				fill(x.Words, -9)
				for j := i + 1; j < len(c); j++ {
					if slices.Contains(c[j].Words, -9) {
						t.Error("shared", n, i, j)
					}
				}
			}
			fill(c, leaf(-9))
			k.check(t)
		}
	}
	got, _ := k.x.Lines()
	fill(got, line(9, 9, 9, 9))
	k.check(t)
	for n := range 3 { // a word of one copy is none of another one
		for i := range 4 {
			k.blot(t, n, i+1, i, 60000+n)
			k.check(t)
		}
	}
	k.store(t, before)
	k.check(t)
}

// What is asked twice is told in the same way (R7).
func TestSameAgain(t *testing.T) {
	r := chance(20)
	for range 100 {
		s := anyShape(r, 4, 4, 2)
		all := wholeOf(s, anyData(r, s))
		copies := anyCopies(r, s, all)
		bad, _ := spoiled(r, all, r.IntN(len(all)+1))
		j, _ := leaves.Join(s, copies)
		m, e := leaves.Mend(s, bad)
		for range 5 {
			again, _ := leaves.Join(s, copies)
			n, f := leaves.Mend(s, bad)
			if !sameLeaves(again, j) || !sameMended(n, m) || e != f {
				t.Fatal(s, copies, bad, again, n, f)
			}
		}
	}
}
