package leaves_test

import (
	"slices"
	"testing"

	"drowner/api"
	"drowner/leaves"
)

// badShapes returns shapes that are not valid.
func badShapes() []api.Shape {
	return []api.Shape{
		{}, shape(0, 2, 1), shape(-1, 2, 1), shape(21, 2, 1), shape(2, -1, 1), shape(2, 21, 1), shape(2, 2, 0), shape(2, 2, -1), shape(2, 2, 33),
		shape(1<<63-1, 0, 1), shape(1, 1<<63-1, 1), shape(1, 0, 1<<63-1), shape(-1<<63, 0, 1), shape(1, -1<<63, 1), shape(1, 0, -1<<63), shape(20, 20, 40),
	}
}

// P9.2: Check.
func TestCheck(t *testing.T) {
	for _, s := range badShapes() {
		want(t, "a wrong shape", leaves.Check(s), api.ErrArg)
	}
	for data := 1; data <= 20; data++ {
		for checks := range 21 {
			for width := 1; width <= 32; width++ {
				want(t, "a shape", leaves.Check(shape(data, checks, width)), api.OK)
			}
		}
	}
}

// badLeaves returns leaves that are wrong for the shape with Data 2, Checks 2 and Width 2, with the error of each list.
func badLeaves() []struct {
	name string
	l    []api.Leaf
	want api.Errno
} {
	type bad = struct {
		name string
		l    []api.Leaf
		want api.Errno
	}
	one, two := leaf(1, 5, 6), leaf(2, 7, 8)
	l := []bad{
		{"41 leaves", slices.Repeat([]api.Leaf{one}, 41), api.ErrLimit},
		{"41 leaves, all wrong", make([]api.Leaf, 41), api.ErrLimit},
		{"40 leaves", slices.Repeat([]api.Leaf{one}, 40), api.ErrTwice},
		{"the leaf 0", []api.Leaf{one, leaf(0, 1, 1)}, api.ErrArg},
		{"less than 0", []api.Leaf{leaf(-1, 1, 1), one}, api.ErrArg},
		{"the least number", []api.Leaf{one, two, leaf(-1<<63, 1, 1)}, api.ErrArg},
		{"behind the last one", []api.Leaf{one, leaf(5, 1, 1)}, api.ErrArg},
		{"the greatest number", []api.Leaf{one, two, leaf(1<<63-1, 1, 1)}, api.ErrArg},
		{"no words", []api.Leaf{one, leaf(2)}, api.ErrArg},
		{"too few words", []api.Leaf{leaf(2, 1), one}, api.ErrArg},
		{"too many words", []api.Leaf{one, two, leaf(3, 1, 1, 1)}, api.ErrArg},
		{"twice", []api.Leaf{one, two, one}, api.ErrTwice},
		{"twice, with other words", []api.Leaf{two, leaf(2, 7, 9)}, api.ErrTwice},
		{"twice, then a wrong one", []api.Leaf{one, one, leaf(0, 1, 1)}, api.ErrTwice},
		{"a wrong one, then twice", []api.Leaf{one, leaf(2, 1), one}, api.ErrArg},
		{"twice, in a wrong one", []api.Leaf{one, leaf(1, 1)}, api.ErrArg},
		{"a wrong one, then the same number", []api.Leaf{leaf(1, 1), one}, api.ErrArg},
	}
	for _, n := range noWords() {
		l = append(l, bad{"a word that is none, first", []api.Leaf{leaf(1, n, 1), two}, api.ErrArg})
		l = append(l, bad{"a word that is none, last", []api.Leaf{one, two, leaf(4, 1, n)}, api.ErrArg})
	}
	return l
}

// P9.2: CheckLeaves.
func TestCheckLeaves(t *testing.T) {
	for _, x := range badLeaves() {
		want(t, x.name, leaves.CheckLeaves(shape(2, 2, 2), x.l), x.want)
	}
	for _, l := range [][]api.Leaf{
		nil, {}, {leaf(4, 0, prime-1)}, {leaf(1, 5, 6), leaf(2, 5, 6)}, {leaf(4, 1, 2), leaf(2, 0, 0), leaf(3, 9, 9), leaf(1, 7, 7)},
	} {
		want(t, "leaves", leaves.CheckLeaves(shape(2, 2, 2), l), api.OK)
	}
	want(t, "a check leaf of none", leaves.CheckLeaves(shape(2, 0, 2), []api.Leaf{leaf(3, 1, 1)}), api.ErrArg)
	var all []api.Leaf
	for i := range 40 {
		all = append(all, leaf(40-i, slices.Repeat([]int{prime - 1 - i}, 32)...))
	}
	want(t, "all leaves", leaves.CheckLeaves(greatest(), all), api.OK)
	want(t, "all leaves of a lesser book", leaves.CheckLeaves(shape(20, 19, 32), all), api.ErrArg)
	want(t, "all leaves of a wider book", leaves.CheckLeaves(shape(20, 20, 31), all), api.ErrArg)
}

// P9.2: the chapter's example, and books that come from few polynomials.
func TestWholeExamples(t *testing.T) {
	for _, x := range []struct {
		s    api.Shape
		data [][]int
		l    []api.Leaf
	}{
		{example(), rows(5, 8), []api.Leaf{leaf(1, 5), leaf(2, 8), leaf(3, 11), leaf(4, 14)}},
		{example(), rows(0, prime-1), []api.Leaf{leaf(1, 0), leaf(2, prime-1), leaf(3, prime-2), leaf(4, prime-3)}},
		{shape(1, 2, 3), [][]int{{7, 0, 9}}, []api.Leaf{leaf(1, 7, 0, 9), leaf(2, 7, 0, 9), leaf(3, 7, 0, 9)}},
		{shape(3, 0, 1), rows(1, 4, 9), []api.Leaf{leaf(1, 1), leaf(2, 4), leaf(3, 9)}},
		{shape(3, 2, 2), [][]int{{1, 0}, {4, 0}, {9, 0}}, []api.Leaf{leaf(1, 1, 0), leaf(2, 4, 0), leaf(3, 9, 0), leaf(4, 16, 0), leaf(5, 25, 0)}},
	} {
		if l, e := leaves.Whole(x.s, x.data); !sameLeaves(l, x.l) || e != api.OK {
			t.Error(x, l, e)
		}
	}
}

// P9.2, against the definition.
func TestWhole(t *testing.T) {
	r := chance(3)
	for i := range 150 {
		s := anyShape(r, 20, 20, 32)
		if i < 3 {
			s = greatest()
		}
		data := anyData(r, s)
		if l, e := leaves.Whole(s, data); !sameLeaves(l, wholeOf(s, data)) || e != api.OK {
			t.Fatal(s, data, l, e)
		}
	}
}

// badData returns lists that are no data of the shape with Data 2, Checks 2 and Width 2.
func badData() [][][]int {
	one, two := []int{1, 2}, []int{3, 4}
	l := [][][]int{nil, {}, {one}, {one, two, one}, {one, nil}, {{}, two}, {one, {3}}, {{1, 2, 3}, two}, {{1, 2, 3}, {4}}, {{1, 2, 3, 4}}, {one, two, {}}}
	for _, n := range noWords() {
		l = append(l, [][]int{{n, 2}, two}, [][]int{one, {3, n}})
	}
	return l
}

func TestBadData(t *testing.T) {
	s := shape(2, 2, 2)
	for _, x := range badData() {
		if l, e := leaves.Whole(s, x); len(l) > 0 || e != api.ErrArg {
			t.Error(x, l, e)
		}
		if l, e := leaves.Read(s, x); len(l) > 0 || e != api.ErrArg {
			t.Error(x, l, e)
		}
	}
}
