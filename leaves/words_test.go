package leaves_test

import (
	"slices"
	"testing"

	"drowner/api"
	"drowner/leaves"
)

// noWords are numbers that are no words.
func noWords() []int { return []int{-1 << 63, -prime, -1, prime, prime + 1, 2 * prime, 1<<63 - 1} }

// P9.1, P9.8: a number times its Inverse is 1, and there is no other such word.
func TestInverse(t *testing.T) {
	for n := 1; n < prime; n++ {
		i, e := leaves.Inverse(n)
		if i < 1 || i >= prime || n*i%prime != 1 || e != api.OK {
			t.Fatal(n, i, e)
		}
	}
	if i, e := leaves.Inverse(2); i != 32761 || e != api.OK {
		t.Error(i, e)
	}
	for _, n := range append(noWords(), 0) {
		if i, e := leaves.Inverse(n); i != 0 || e != api.ErrArg {
			t.Error(n, i, e)
		}
	}
}

// P9.1: the chapter's example, and polynomials with as many coefficients as there can be.
func TestValue(t *testing.T) {
	for _, x := range []struct {
		c    []int
		x, y int
	}{
		{[]int{1, 2, 3}, 10, 321}, {nil, 5, 0}, {[]int{}, 0, 0}, {[]int{7}, 0, 7}, {[]int{7, 9}, 0, 7}, {[]int{0, 9}, 0, 0},
		{[]int{prime - 1, 1}, 1, 0}, {[]int{0, 1}, prime - 1, prime - 1}, {[]int{0, 0, 1}, prime - 1, 1},
		{[]int{prime - 1, prime - 1}, prime - 1, 0}, {slices.Repeat([]int{1}, 600), 1, 600},
	} {
		if y, e := leaves.Value(x.c, x.x); y != x.y || e != api.OK {
			t.Error(x, y, e)
		}
	}
	r := chance(1)
	for i := range 300 {
		c, x := anyWords(r, min(i, 2*i*i)%(api.MaxCoeffs+1)), anyWord(r)
		if y, e := leaves.Value(c, x); y != valueOf(c, x) || e != api.OK {
			t.Fatal(c, x, y, e)
		}
	}
	for range 10 {
		c, x := anyWords(r, api.MaxCoeffs), anyWord(r)
		if y, e := leaves.Value(c, x); y != valueOf(c, x) || e != api.OK {
			t.Fatal(c, x, y, e)
		}
	}
}

func TestValueErrors(t *testing.T) {
	wrong := func(c []int, x int, wanted api.Errno) {
		t.Helper()
		if y, e := leaves.Value(c, x); y != 0 || e != wanted {
			t.Error(c, x, y, e, wanted)
		}
	}
	for _, n := range noWords() {
		wrong([]int{1, n}, 1, api.ErrArg)
		wrong([]int{n, 1, 1}, 0, api.ErrArg)
		wrong([]int{1}, n, api.ErrArg)
		wrong(nil, n, api.ErrArg)
		wrong(slices.Repeat([]int{n}, 601), n, api.ErrLimit)
		wrong(append(make([]int, 599), n), 0, api.ErrArg)
	}
	wrong(make([]int, 601), 0, api.ErrLimit)
}

// P9.1, P9.8: Through of the values of a polynomial at as many different words is the polynomial, and Value of it at each X is Y.
func TestThrough(t *testing.T) {
	r := chance(2)
	for i := range 200 {
		c := anyWords(r, i%41)
		if i%3 == 0 && len(c) > 0 {
			c[len(c)-1] = 0
		}
		xs := r.Perm(prime)
		if i%2 == 0 {
			xs = r.Perm(41)
		}
		var l []api.Dot
		for k := range c {
			l = append(l, dot(xs[k], valueOf(c, xs[k])))
		}
		if got, e := leaves.Through(l); !slices.Equal(got, c) || e != api.OK {
			t.Fatal(c, l, got, e)
		}
		for k := range l {
			l[k].Y = anyWord(r)
		}
		got, e := leaves.Through(l)
		if len(got) != len(l) || e != api.OK {
			t.Fatal(l, got, e)
		}
		for _, d := range l {
			if y, e := leaves.Value(got, d.X); y != d.Y || e != api.OK {
				t.Fatal(l, got, d, y, e)
			}
		}
	}
}

func TestThroughExamples(t *testing.T) {
	for _, x := range []struct {
		l []api.Dot
		c []int
	}{
		{[]api.Dot{dot(1, 5), dot(2, 8)}, []int{2, 3}},
		{[]api.Dot{dot(2, 8), dot(1, 5)}, []int{2, 3}},
		{nil, nil},
		{[]api.Dot{}, nil},
		{[]api.Dot{dot(0, 9)}, []int{9}},
		{[]api.Dot{dot(prime-1, prime-1)}, []int{prime - 1}},
		{[]api.Dot{dot(1, 4), dot(5, 4), dot(3, 4)}, []int{4, 0, 0}},
		{[]api.Dot{dot(0, 0), dot(prime-1, 1)}, []int{0, prime - 1}},
		{[]api.Dot{dot(0, 1), dot(1, 1)}, []int{1, 0}},
	} {
		if c, e := leaves.Through(x.l); !slices.Equal(c, x.c) || e != api.OK {
			t.Error(x, c, e)
		}
	}
}

func TestThroughErrors(t *testing.T) {
	wrong := func(l []api.Dot, wanted api.Errno) {
		t.Helper()
		if c, e := leaves.Through(l); len(c) > 0 || e != wanted {
			t.Error(l, c, e, wanted)
		}
	}
	many := func(count int) []api.Dot {
		var l []api.Dot
		for n := range count {
			l = append(l, dot(n, n))
		}
		return l
	}
	if c, e := leaves.Through(many(40)); len(c) != 40 || c[1] != 1 || e != api.OK {
		t.Error(c, e)
	}
	wrong(many(41), api.ErrLimit)
	wrong(make([]api.Dot, 41), api.ErrLimit)
	wrong(slices.Repeat([]api.Dot{dot(-1, -1)}, 41), api.ErrLimit)
	for _, n := range noWords() {
		wrong([]api.Dot{dot(1, 1), dot(n, 1)}, api.ErrArg)
		wrong([]api.Dot{dot(1, n), dot(2, 1)}, api.ErrArg)
		wrong([]api.Dot{dot(1, 1), dot(1, 1), dot(2, n)}, api.ErrArg) // words are looked for in all points first
		wrong([]api.Dot{dot(n, 1), dot(n, 1)}, api.ErrArg)
		wrong(append(many(39), dot(n, 1)), api.ErrArg)
	}
	wrong([]api.Dot{dot(1, 5), dot(1, 8)}, api.ErrTwice)
	wrong([]api.Dot{dot(0, 5), dot(3, 1), dot(0, 5)}, api.ErrTwice)
	wrong(append(many(39), dot(38, 0)), api.ErrTwice)
}
