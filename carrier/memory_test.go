package carrier_test

import (
	"slices"
	"testing"

	"drowner/api"
	"drowner/carrier"
)

// Arguments are neither modified nor kept, and results are new memory (R6).

// roomy returns all arguments with room behind their lists, in which nothing may be written.
func roomy() in {
	a := good()
	a.w.Carriers = slices.Grow(a.w.Carriers, 3)
	for c, x := range a.w.Carriers {
		l := slices.Grow(x.Outlets, 3)
		for i := range l {
			l[i].Passes = slices.Grow(l[i].Passes, 3)
		}
		a.w.Carriers[c].Outlets = l
	}
	for _, l := range []*[]int{&a.s.River, &a.s.Boards, &a.s.Leaks, &a.s.Losses} {
		*l = slices.Grow(*l, 3)
	}
	a.c.River, a.c.Boards = slices.Grow(a.c.River, 3), slices.Grow(a.c.Boards, 3)
	return a
}

func TestArgumentsStay(t *testing.T) {
	for _, f := range calls() {
		a := roomy()
		f.do(a)
		if !sameWorks(a.w, meadow()) || !sameWater(a.s, now()) || !slices.Equal(a.c.River, known().River) || !slices.Equal(a.c.Boards, known().Boards) {
			t.Error(f.name, a)
		}
		if !sameWater(a.l[0].Water, now()) || a.l[0].Minutes != 3 {
			t.Error(f.name, a.l)
		}
		y, _ := carrier.Ends(meadow(), known(), 4)
		if a.x.Flow != y.Flow || !sameWater(a.x.Least, y.Least) || !sameWater(a.x.Most, y.Most) {
			t.Error(f.name, a.x)
		}
		for _, l := range [][]int{a.s.River, a.s.Boards, a.s.Leaks, a.s.Losses, a.w.Carriers[0].Outlets[0].Passes} {
			if slices.ContainsFunc(l[len(l):cap(l)], func(n int) bool { return n != 0 }) {
				t.Error(f.name, "writes behind a list")
			}
		}
		for _, l := range [][]api.Span{a.c.River, a.c.Boards} {
			if slices.ContainsFunc(l[len(l):cap(l)], func(x api.Span) bool { return x != api.Span{} }) {
				t.Error(f.name, "writes behind a list")
			}
		}
	}
}

// fill writes into all of a list, and behind it.
func fill(l []int) {
	l = l[:cap(l)]
	for i := range l {
		l[i] = -99
	}
}

func TestResultsAreNew(t *testing.T) {
	w, s, c := meadow(), now(), known()
	for _, l := range lists(w, s, c) {
		before := lists(w, s, c)
		fill(l)
		for i, x := range lists(w, s, c) {
			if !slices.Equal(x, before[i]) {
				t.Error("kept", i)
			}
		}
	}
	all := lists(w, s, c)
	for i := range all {
		fill(all[i])
		for j := i + 1; j < len(all); j++ {
			if slices.Contains(all[j], -99) {
				t.Error("shared", i, j)
			}
		}
	}
	if !sameWorks(w, meadow()) || !sameWater(s, now()) || !slices.Equal(c.River, known().River) || !slices.Equal(c.Boards, known().Boards) {
		t.Error("an argument is shared")
	}
}

// lists returns all lists of numbers of all results.
func lists(w api.Works, s api.Water, c api.Case) [][]int {
	a, _ := carrier.Heads(w)
	b, _ := carrier.Outlets(w)
	d, _ := carrier.Beds(w)
	p, _ := carrier.Path(w, 4)
	q, _ := carrier.Below(w, 1)
	f, _ := carrier.Flow(w, s)
	g, _ := carrier.Tails(w, s)
	h, o, r, _ := carrier.Signs(w, 4)
	x, _ := carrier.Ends(w, c, 4)
	k, _ := carrier.Rests(w, c, 4)
	m, _ := carrier.Drunk(w, []api.Run{{Minutes: 2, Water: s}})
	l := [][]int{a, b, d, p, q, f, g, h, o, r, k, m}
	l = append(l, x.Least.River, x.Least.Boards, x.Least.Leaks, x.Least.Losses, x.Most.River, x.Most.Boards, x.Most.Leaks, x.Most.Losses)
	left, _ := carrier.Without(w, 1)
	for _, y := range sites(left) {
		l = append(l, y.o.Passes)
	}
	return l
}

// P2.10: the outlets of what is left are not those of the works.
func TestWithoutIsNew(t *testing.T) {
	w := meadow()
	x, _ := carrier.Without(w, 1)
	x.Carriers[0].Outlets[0] = api.Outlet{}
	x.Carriers[0] = api.Carrier{}
	if !sameWorks(w, meadow()) {
		t.Error(w)
	}
}
