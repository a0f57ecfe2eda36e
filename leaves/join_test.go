package leaves_test

import (
	"math/rand/v2"
	"slices"
	"testing"

	"drowner/api"
	"drowner/leaves"
)

// P9.4: the chapter's examples, and leaves that are equal in as many copies as others.
func TestJoinExamples(t *testing.T) {
	of := func(words ...int) [][]api.Leaf { // copies with one leaf each
		var l [][]api.Leaf
		for _, n := range words {
			l = append(l, []api.Leaf{leaf(1, n)})
		}
		return l
	}
	one := func(n int) []api.Leaf { return []api.Leaf{leaf(1, n)} }
	for _, x := range []struct {
		s      api.Shape
		copies [][]api.Leaf
		l      []api.Leaf
	}{
		{example(), of(5, 5, 6), one(5)},
		{example(), of(5, 6, 5), one(5)},
		{example(), of(6, 5, 5), one(5)},
		{example(), of(5, 6), nil},
		{example(), of(5), one(5)},
		{example(), nil, nil},
		{example(), make([][]api.Leaf, 5), nil},
		{example(), of(5, 6, 7), nil},
		{example(), of(5, 5, 6, 6), nil},
		{example(), of(5, 5, 6, 6, 7), nil},
		{example(), of(7, 6, 6, 5, 5), nil},
		{example(), of(5, 6, 7, 8, 5), one(5)},
		{example(), of(6, 5, 5, 6, 6), one(6)},
		{example(), of(0, 0, 1), one(0)},
		{example(), of(5, 6, 7, 8, 9), nil},
		{example(), [][]api.Leaf{one(5), nil, nil, nil, {leaf(2, 9)}}, []api.Leaf{leaf(1, 5), leaf(2, 9)}},
		{example(), [][]api.Leaf{{leaf(4, 4), leaf(1, 1)}, {leaf(2, 1), leaf(4, 3)}, {leaf(4, 3), leaf(1, 2)}}, []api.Leaf{leaf(2, 1), leaf(4, 3)}},
		{example(), [][]api.Leaf{{leaf(1, 5), leaf(2, 6)}, {leaf(1, 6), leaf(2, 5)}}, nil}, // the same words, but with other numbers
		{shape(1, 1, 2), [][]api.Leaf{{leaf(2, 7, 0)}, {leaf(2, 7, 1)}, {leaf(2, 7, 1)}}, []api.Leaf{leaf(2, 7, 1)}},
		{shape(1, 1, 2), [][]api.Leaf{{leaf(2, 7, 0)}, {leaf(2, 7, 1)}}, nil},
		{shape(1, 1, 2), [][]api.Leaf{{leaf(2, 0, 7)}, {leaf(2, 1, 7)}}, nil},
	} {
		if l, e := leaves.Join(x.s, x.copies); !sameLeaves(l, x.l) || e != api.OK {
			t.Error(x, l, e)
		}
	}
}

// anyCopies returns copies of a book with leaves that are torn or have other words.
func anyCopies(r *rand.Rand, s api.Shape, all []api.Leaf) [][]api.Leaf {
	var copies [][]api.Leaf
	torn, blotted := r.IntN(4), r.IntN(4)
	for range r.IntN(api.MaxCopies + 1) {
		l := slices.DeleteFunc(copyLeaves(all), func(api.Leaf) bool { return r.IntN(6) < torn })
		for i := range l {
			if r.IntN(4) < blotted {
				l[i].Words[r.IntN(s.Width)] = r.IntN(2)
			}
		}
		copies = append(copies, mixed(r, l))
	}
	return copies
}

// P9.4, against the definition, and P9.11: the order of copies does not matter.
func TestJoin(t *testing.T) {
	r := chance(10)
	less := 0
	for range 1500 {
		s := anyShape(r, 4, 4, 3)
		all := wholeOf(s, anyData(r, s))
		copies := anyCopies(r, s, all)
		wanted := joinOf(s, copies)
		for range 3 {
			if l, e := leaves.Join(s, copies); !sameLeaves(l, wanted) || e != api.OK {
				t.Fatal(s, copies, l, wanted, e)
			}
			copies = mixed(r, copies)
		}
		if 0 < len(wanted) && len(wanted) < len(all) {
			less++
		}
	}
	if less < 300 {
		t.Error("only", less)
	}
}

// P9.11: if for each number fewer copies have another leaf than have that of the book, Join has just leaves of the book.
func TestJoinOfABook(t *testing.T) {
	r := chance(11)
	for i := range 200 {
		s := anyShape(r, 20, 20, 32)
		all := wholeOf(s, anyData(r, s))
		copies := make([][]api.Leaf, 1+r.IntN(5))
		var wanted []api.Leaf
		for _, x := range all {
			order := r.Perm(len(copies))
			right := r.IntN(len(copies) + 1)
			wrong := r.IntN(min(len(copies)-right, max(0, right-1)) + 1)
			other, _ := spoiled(r, []api.Leaf{x}, 1)
			for k, c := range order[:right+wrong] {
				if k < right {
					copies[c] = append(copies[c], x)
				} else if i%2 == 0 { // all others alike
					copies[c] = append(copies[c], other[0])
				} else {
					y, _ := spoiled(r, []api.Leaf{x}, 1)
					copies[c] = append(copies[c], y[0])
				}
			}
			if right > 0 {
				wanted = append(wanted, x)
			}
		}
		if l, e := leaves.Join(s, copies); !sameLeaves(l, wanted) || e != api.OK {
			t.Fatal(s, copies, l, wanted, e)
		}
	}
}

// P9.4: the errors of copies, in their order.
func TestJoinErrors(t *testing.T) {
	s := shape(2, 2, 2)
	good := []api.Leaf{leaf(1, 5, 6), leaf(4, 5, 6)}
	wrong := func(name string, copies [][]api.Leaf, wanted api.Errno) {
		t.Helper()
		if l, e := leaves.Join(s, copies); len(l) > 0 || e != wanted {
			t.Error(name, l, e, wanted)
		}
	}
	wrong("6 copies", slices.Repeat([][]api.Leaf{good}, 6), api.ErrLimit)
	wrong("6 empty copies", make([][]api.Leaf, 6), api.ErrLimit)
	wrong("6 copies, all wrong", slices.Repeat([][]api.Leaf{{leaf(0)}}, 6), api.ErrLimit)
	for _, x := range badLeaves() {
		for n := range 5 {
			copies := slices.Repeat([][]api.Leaf{good}, 5)
			copies[n] = x.l
			wrong(x.name, copies, x.want)
			for _, y := range badLeaves() {
				if n < 4 {
					copies[n+1] = y.l
					wrong(x.name+", "+y.name, copies, x.want)
				}
			}
		}
	}
	if l, e := leaves.Join(s, slices.Repeat([][]api.Leaf{good}, 5)); !sameLeaves(l, good) || e != api.OK {
		t.Error(l, e)
	}
}
