package levy_test

import (
	"math/rand/v2"
	"slices"
	"testing"

	"drowner/api"
	"drowner/levy"
)

// P8.3, in the chapter's examples, and at the edges.
func TestAloneExamples(t *testing.T) {
	for _, x := range []struct {
		group        []int
		alone, saved int
		want         api.Errno
	}{
		{[]int{1, 3}, 22, 10, api.OK},
		{[]int{2}, 17, 5, api.OK},
		{nil, 0, 0, api.OK},
		{[]int{}, 0, 0, api.OK},
		{[]int{4}, 12, 0, api.OK},
		{[]int{1, 2, 3, 4}, 27, 27, api.OK},
		{[]int{2, 1}, 0, 0, api.ErrArg},
		{[]int{2, 2}, 0, 0, api.ErrArg},
		{[]int{1, 3, 2}, 0, 0, api.ErrArg},
		{[]int{5}, 0, 0, api.ErrArg},
		{[]int{0}, 0, 0, api.ErrArg},
		{[]int{-1, 1}, 0, 0, api.ErrArg},
		{[]int{1, 2, 3, 4, 5}, 0, 0, api.ErrArg},
	} {
		a, e := levy.Alone(example(), x.group)
		s, f := levy.Saved(example(), x.group)
		if a != x.alone || s != x.saved || e != x.want || f != x.want {
			t.Error(x, a, s, e, f)
		}
	}
	if n, e := levy.Alone(full(), []int{api.MaxID}); n != api.MaxCost || e != api.OK {
		t.Error(n, e)
	}
	if n, e := levy.Alone(full(), []int{api.MaxID - 23, api.MaxID}); n != 24*api.MaxCost || e != api.OK {
		t.Error(n, e)
	}
	if n, e := levy.Saved(full(), []int{api.MaxID - 23, api.MaxID}); n != api.MaxCost || e != api.OK {
		t.Error(n, e)
	}
}

// P8.3, against the chapter's definitions.
func TestAlone(t *testing.T) {
	large(10, 300, func(r *rand.Rand, w api.Tree) {
		for range 5 {
			g := anyGroup(r, w)
			a, e := levy.Alone(w, g)
			s, f := levy.Saved(w, g)
			if a != aloneOf(w, g) || s != wholeOf(w)-aloneOf(w, othersOf(w, g)) || e != api.OK || f != api.OK {
				t.Fatal(w, g, a, s, e, f)
			}
		}
	})
}

// P8.5, in the chapter's examples, and at the edges.
func TestObjectionExamples(t *testing.T) {
	nothing := with(example(), func(t *api.Tree) { t.Payers = nil })
	free := with(example(), func(t *api.Tree) { t.Reaches[0].Cost, t.Reaches[1].Cost = 0, 0 })
	for _, x := range []struct {
		t            api.Tree
		pence, group []int
		by           int
		fair         bool
	}{
		{example(), []int{6, 8, 10, 3}, nil, 0, true},
		{example(), []int{2, 18, 7, 0}, []int{2}, 1, false},
		{example(), []int{2, 18, 6, 1}, []int{2, 4}, 2, false},
		{example(), []int{0, 17, 10, 0}, nil, 0, true},
		{example(), []int{0, 17, 9, 0}, nil, 0, false},
		{example(), []int{0, 17, 9, 1}, []int{2, 4}, 1, false},
		{example(), []int{0, 0, 0, 0}, nil, 0, false},
		{example(), []int{18, 0, 9, 0}, []int{1, 3}, 5, false},
		{example(), []int{0, 1 << 30, 0, 0}, []int{2}, 1<<30 - 17, false},
		{example(), []int{1 << 30, 1 << 30, 1 << 30, 1 << 30}, []int{1, 2, 3, 4}, 1<<32 - 27, false},
		{example(), []int{1 << 30, 17, 0, 0}, []int{1, 2}, 1<<30 - 18 + 12, false},
		{example(), []int{1 << 30, 5, 4, 0}, []int{1}, 1<<30 - 18, false},
		{example(), []int{1 << 30, 6, 4, 0}, []int{1, 2}, 1<<30 - 18 + 1, false},
		{free, []int{0, 0, 0, 0}, nil, 0, false},
		{free, []int{1, 0, 0, 0}, []int{1}, 1, false},
		{free, []int{0, 5, 4, 0}, nil, 0, true},
		{free, []int{1, 4, 4, 0}, []int{1}, 1, false},
		{free, []int{1, 5, 4, 0}, []int{1}, 1, false},
		{nothing, nil, nil, 0, true},
		{nothing, []int{}, nil, 0, true},
		{api.Tree{}, nil, nil, 0, true},
	} {
		g, n, e := levy.Objection(x.t, x.pence)
		is, f := levy.Fair(x.t, x.pence)
		if !slices.Equal(g, x.group) || n != x.by || is != x.fair || e != api.OK || f != api.OK {
			t.Error(x, g, n, is, e, f)
		}
	}
}

// P8.5, against all groups of small trees. There is just one of those that pay too much by the most with the fewest payers.
func TestObjection(t *testing.T) {
	fair, less, more := 0, 0, 0
	small(11, 400, func(r *rand.Rand, w api.Tree) {
		costs := costsOf(w)
		for range 4 {
			pence := anyPence(r, w)
			group, most := paysMost(w, pence)
			g, n, e := levy.Objection(w, pence)
			is, f := levy.Fair(w, pence)
			if !slices.Equal(g, group) || n != most || is != isFair(w, pence) || e != api.OK || f != api.OK {
				t.Fatal(w, pence, g, n, is, e, f, group, most)
			}
			for i, other := range groupsOf(w) {
				over := askedOf(w, pence, other) - costs[i]
				if over == most && most > 0 && len(other) <= len(g) && !slices.Equal(other, g) {
					t.Fatal("another one", w, pence, g, other)
				}
				wanted := api.OK
				if over < 1 {
					over, wanted = 0, api.ErrProof
				}
				if by, e := levy.CheckObjection(w, pence, other); by != over || e != wanted {
					t.Fatal(w, pence, other, by, over, e)
				}
			}
			switch {
			case is:
				fair++
			case most == 0:
				less++
			default:
				more++
			}
		}
	})
	if fair < 200 || less < 50 || more < 300 {
		t.Error("only", fair, less, more)
	}
}

// P8.5, against flows in great trees.
func TestObjectionLarge(t *testing.T) {
	fair, more := 0, 0
	large(12, 150, func(r *rand.Rand, w api.Tree) {
		pence := anyPence(r, w)
		group, most := flowOf(w, pence).stuck()
		g, n, e := levy.Objection(w, pence)
		is, f := levy.Fair(w, pence)
		if !slices.Equal(g, group) || n != most || is != (most == 0 && total(pence) == wholeOf(w)) || e != api.OK || f != api.OK {
			t.Fatal(w, pence, g, n, is, e, f, group, most)
		}
		if is {
			fair++
		}
		if n > 0 {
			more++
		}
	})
	if fair < 20 || more < 40 {
		t.Error("only", fair, more)
	}
}

// P8.5: CheckObjection. Groups and pence that are none give ErrArg, also beside each other.
func TestCheckObjectionExamples(t *testing.T) {
	for _, x := range []struct {
		pence, group []int
		n            int
		want         api.Errno
	}{
		{[]int{2, 18, 6, 1}, []int{2, 4}, 2, api.OK},
		{[]int{2, 18, 6, 1}, []int{2}, 1, api.OK},
		{[]int{2, 17, 6, 1}, []int{2}, 0, api.ErrProof},
		{[]int{2, 17, 6, 1}, []int{2, 4}, 1, api.OK},
		{[]int{2, 18, 6, 1}, []int{4}, 0, api.ErrProof},
		{[]int{2, 18, 6, 1}, nil, 0, api.ErrProof},
		{[]int{6, 8, 10, 3}, []int{1, 2, 3, 4}, 0, api.ErrProof},
		{[]int{6, 8, 10, 4}, []int{1, 2, 3, 4}, 1, api.OK},
		{[]int{0, 0, 0, 0}, []int{1, 2, 3, 4}, 0, api.ErrProof},
		{[]int{0, 1 << 30, 0, 0}, []int{2}, 1<<30 - 17, api.OK},
		{[]int{0, 1<<30 + 1, 0, 0}, []int{2}, 0, api.ErrArg},
		{[]int{0, 18, -1, 0}, []int{2}, 0, api.ErrArg},
		{[]int{0, 18, 0}, []int{2}, 0, api.ErrArg},
		{[]int{0, 18, 0, 0, 0}, []int{2}, 0, api.ErrArg},
		{nil, []int{2}, 0, api.ErrArg},
		{[]int{2, 18, 6, 1}, []int{4, 2}, 0, api.ErrArg},
		{[]int{2, 18, 6, 1}, []int{2, 2}, 0, api.ErrArg},
		{[]int{2, 18, 6, 1}, []int{2, 5}, 0, api.ErrArg},
		{[]int{6, 8, 10, 3}, []int{5}, 0, api.ErrArg},
		{nil, []int{5}, 0, api.ErrArg},
	} {
		if n, e := levy.CheckObjection(example(), x.pence, x.group); n != x.n || e != x.want {
			t.Error(x, n, e)
		}
	}
}

// P8.7: Most and Least, against all fair pence of small trees.
func TestMostLeast(t *testing.T) {
	apart := 0
	tiny(13, 250, func(r *rand.Rand, w api.Tree) {
		all := fairLists(w)
		for i, p := range w.Payers {
			most, least := all[0][i], all[0][i]
			for _, l := range all {
				most, least = max(most, l[i]), min(least, l[i])
			}
			m, e := levy.Most(w, p.ID)
			n, f := levy.Least(w, p.ID)
			if m != most || n != least || e != api.OK || f != api.OK {
				t.Fatal(w, p, m, most, n, least, e, f)
			}
			if most > least && least > 0 {
				apart++
			}
		}
	})
	if apart < 20 {
		t.Error("only", apart)
	}
}

func TestMostLeastExamples(t *testing.T) {
	for _, x := range []struct {
		id, most, least int
		want            api.Errno
	}{
		{1, 18, 0, api.OK},
		{2, 17, 5, api.OK},
		{3, 22, 4, api.OK},
		{4, 12, 0, api.OK},
		{5, 0, 0, api.ErrNone},
		{0, 0, 0, api.ErrNone},
		{-1, 0, 0, api.ErrNone},
	} {
		m, e := levy.Most(example(), x.id)
		n, f := levy.Least(example(), x.id)
		if m != x.most || n != x.least || e != x.want || f != x.want {
			t.Error(x, m, n, e, f)
		}
	}
}

// P8.7: Most and Least in great trees, where pence that are greater, or less, cannot be fair.
func TestMostLeastLarge(t *testing.T) {
	large(14, 25, func(r *rand.Rand, w api.Tree) {
		none, all := make([]int, len(w.Payers)), slices.Repeat([]int{wholeOf(w)}, len(w.Payers))
		at := func(l []int, i, n int) []int {
			l = slices.Clone(l)
			l[i] = n
			return l
		}
		for i, p := range w.Payers {
			m, _ := levy.Most(w, p.ID)
			n, _ := levy.Least(w, p.ID)
			if !isBetween(w, at(none, i, m), at(all, i, m)) || isBetween(w, at(none, i, m+1), all) {
				t.Fatal("most", w, p, m)
			}
			if !isBetween(w, at(none, i, n), at(all, i, n)) || n > 0 && isBetween(w, none, at(all, i, n-1)) {
				t.Fatal("least", w, p, n)
			}
		}
	})
}
