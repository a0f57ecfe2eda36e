package levy_test

import (
	"math/big"
	"math/rand/v2"
	"slices"
	"testing"

	"drowner/api"
	"drowner/levy"
)

// costing returns a tree in which a reach has another Cost.
func costing(t api.Tree, reach, cost int) api.Tree {
	return with(t, func(t *api.Tree) { t.Reaches[reach].Cost = cost })
}

// P8.8: Changed, in the chapter's example, and at the edges.
func TestChangedExamples(t *testing.T) {
	part := with(example(), func(t *api.Tree) { t.Payers = t.Payers[:1] })
	for _, x := range []struct {
		t           api.Tree
		reach, cost int
		want        []api.Ratio
		e           api.Errno
	}{
		{example(), 1, 8, ratios(1, 0, 1, 0), api.OK},
		{example(), 1, 5, []api.Ratio{ratio(-1, 2), ratio(0, 1), ratio(-1, 2), ratio(0, 1)}, api.OK},
		{example(), 1, 0, ratios(-3, 0, -3, 0), api.OK},
		{example(), 1, 6, ratios(0, 0, 0, 0), api.OK},
		{example(), 0, 2, []api.Ratio{ratio(-5, 2), ratio(-5, 2), ratio(-5, 2), ratio(-5, 2)}, api.OK},
		{example(), 3, api.MaxCost, ratios(0, 0, api.MaxCost-4, 0), api.OK},
		{brook(0), 0, 1, []api.Ratio{ratio(1, 4), ratio(1, 4), ratio(1, 4), ratio(1, 4)}, api.OK},
		{part, 3, 9, ratios(0), api.OK},
		{with(example(), func(t *api.Tree) { t.Payers = nil }), 3, 9, nil, api.OK},
		{example(), 4, 8, nil, api.ErrNone},
		{example(), -1, 8, nil, api.ErrNone},
		{example(), 4, -1, nil, api.ErrNone},
		{example(), 1, -1, nil, api.ErrArg},
		{example(), 1, api.MaxCost + 1, nil, api.ErrArg},
		{example(), 1, 1<<63 - 1, nil, api.ErrArg},
		{api.Tree{}, 0, 8, nil, api.ErrNone},
	} {
		if l, e := levy.Changed(x.t, x.reach, x.cost); !slices.Equal(l, x.want) || e != x.e {
			t.Error(x, l, e)
		}
	}
}

// P8.8: Changed, against the chapter's definition. P8.14: if a reach costs more, no share is less, and those who do not use it pay the same.
func TestChanged(t *testing.T) {
	large(50, 150, func(r *rand.Rand, w api.Tree) {
		if len(w.Reaches) == 0 {
			return
		}
		at, cost := r.IntN(len(w.Reaches)), r.IntN(api.MaxCost+1)
		l, e := levy.Changed(w, at, cost)
		now, then := sharesOf(w), sharesOf(costing(w, at, cost))
		var wanted []*big.Rat
		for i := range now {
			wanted = append(wanted, new(big.Rat).Sub(then[i], now[i]))
		}
		if !slices.Equal(l, lowestOf(wanted)) || e != api.OK {
			t.Fatal(w, at, cost, l, e)
		}
		for i, p := range w.Payers {
			if !uses(w, p, at) && l[i] != ratio(0, 1) || cost >= w.Reaches[at].Cost && l[i].Num < 0 {
				t.Fatal(w, at, cost, p, l[i])
			}
		}
	})
}

// P8.8: Joined.
func TestJoined(t *testing.T) {
	u, e := levy.Joined(example(), payer(9, 3, 2))
	wanted := with(example(), func(t *api.Tree) { t.Payers = append(t.Payers, payer(9, 3, 2)) })
	if !sameTree(u, wanted) || e != api.OK {
		t.Error(u, e)
	}
	less := with(full(), func(t *api.Tree) { t.Payers = t.Payers[1:] })
	if u, e := levy.Joined(less, payer(1, 0, 1)); len(u.Payers) != 24 || u.Payers[23] != payer(1, 0, 1) || !slices.Equal(u.Payers[:23], less.Payers) || e != api.OK {
		t.Error(u, e)
	}
	short := with(full(), func(t *api.Tree) { t.Payers[0].Weight = 0 })
	for _, x := range []struct {
		name string
		t    api.Tree
		p    api.Payer
		want api.Errno
	}{
		{"an ID twice", example(), payer(4, 0, 1), api.ErrTwice},
		{"at no reach", example(), payer(9, 4, 1), api.ErrArg},
		{"no payer", example(), api.Payer{}, api.ErrArg},
		{"an ID twice, at no reach", example(), payer(4, 4, 1), api.ErrArg},
		{"an ID twice, with a great weight", example(), payer(4, 0, 21), api.ErrTwice},
		{"great weights", example(), payer(9, 0, 21), api.ErrLimit},
		{"the greatest weight", example(), payer(9, 0, 1<<63-1), api.ErrLimit},
		{"the 25th", full(), payer(9, 0, 1), api.ErrLimit},
		{"the 25th, and wrong", full(), payer(0, 0, 0), api.ErrLimit},
		{"the 25th, of a tree that is wrong", short, payer(9, 0, 1), api.ErrArg},
		{"no reaches", api.Tree{}, payer(1, 0, 1), api.ErrArg},
	} {
		u, e := levy.Joined(x.t, x.p)
		want(t, x.name, e, x.want)
		if !sameTree(u, api.Tree{}) {
			t.Error(x.name, u)
		}
	}
	if u, e := levy.Joined(example(), payer(9, 0, 20)); len(u.Payers) != 5 || e != api.OK {
		t.Error(u, e)
	}
}

// P8.8: the error of Joined is that of Check for the tree that it would return.
func TestJoinedErrors(t *testing.T) {
	seen := map[api.Errno]int{}
	large(51, 400, func(r *rand.Rand, w api.Tree) {
		p := payer(1+r.IntN(72), r.IntN(len(w.Reaches)+1), r.IntN(12))
		wanted := with(w, func(t *api.Tree) { t.Payers = append(t.Payers, p) })
		u, e := levy.Joined(w, p)
		if e != levy.Check(wanted) || e == api.OK && !sameTree(u, wanted) || e != api.OK && !sameTree(u, api.Tree{}) {
			t.Fatal(w, p, u, e)
		}
		seen[e]++
	})
	if seen[api.OK] < 50 || seen[api.ErrArg] < 20 || seen[api.ErrTwice] < 20 || seen[api.ErrLimit] < 20 {
		t.Error("only", seen)
	}
}

func due(id, day, pence int) api.Due { return api.Due{ID: id, Day: day, Pence: pence} }

// P8.9, in the chapter's example, and at the edges.
func TestDuesExamples(t *testing.T) {
	l := []api.Due{due(2, 3, 10), due(4, 9, 1)}
	twice := []api.Due{due(3, 8, 4), due(1, 0, 1), due(3, 0, 2), due(3, 728, 1<<30), due(3, 728, 1<<30)}
	for _, x := range []struct {
		l     []api.Due
		day   int
		owed  []int
		purse int
	}{
		{l, 5, []int{6, -2, 10, 3}, 10},
		{l, 0, []int{6, 8, 10, 3}, 0},
		{l, 2, []int{6, 8, 10, 3}, 0},
		{l, 3, []int{6, -2, 10, 3}, 10},
		{l, 8, []int{6, -2, 10, 3}, 10},
		{l, 9, []int{6, -2, 10, 2}, 11},
		{l, 728, []int{6, -2, 10, 2}, 11},
		{nil, 728, []int{6, 8, 10, 3}, 0},
		{twice, 0, []int{5, 8, 8, 3}, 3},
		{twice, 7, []int{5, 8, 8, 3}, 3},
		{twice, 8, []int{5, 8, 4, 3}, 7},
		{twice, 727, []int{5, 8, 4, 3}, 7},
		{twice, 728, []int{5, 8, 4 - 1<<31, 3}, 7 + 1<<31},
	} {
		a, e := levy.Arrears(example(), x.l, x.day)
		n, f := levy.Purse(example(), x.l, x.day)
		if !slices.Equal(a, x.owed) || n != x.purse || e != api.OK || f != api.OK {
			t.Error(x, a, n, e, f)
		}
	}
	if a, e := levy.Arrears(brook(13), l, 5); !slices.Equal(a, []int{7, -2, 10, 3}) || e != api.OK {
		t.Error(a, e)
	}
	if a, e := levy.Arrears(api.Tree{}, nil, 0); len(a) > 0 || e != api.OK {
		t.Error(a, e)
	}
	most := slices.Repeat([]api.Due{due(3, 0, 1<<30)}, 200)
	a, e := levy.Arrears(example(), most, 0)
	n, f := levy.Purse(example(), most, 0)
	if !slices.Equal(a, []int{6, 8, 10 - 200<<30, 3}) || n != 200<<30 || e != api.OK || f != api.OK {
		t.Error(a, n, e, f)
	}
}

// badDues returns payments, and days, that are not right, with the error of each.
func badDues() []struct {
	l    []api.Due
	day  int
	want api.Errno
} {
	ok := due(1, 3, 1)
	return []struct {
		l    []api.Due
		day  int
		want api.Errno
	}{
		{slices.Repeat([]api.Due{ok}, 201), 5, api.ErrLimit},
		{make([]api.Due, 201), 5, api.ErrLimit},
		{make([]api.Due, 201), -1, api.ErrLimit},
		{[]api.Due{due(5, 3, 1)}, 5, api.ErrArg},
		{[]api.Due{due(0, 3, 1)}, 5, api.ErrArg},
		{[]api.Due{ok, due(-1, 3, 1)}, 5, api.ErrArg},
		{[]api.Due{due(1, -1, 1)}, 5, api.ErrArg},
		{[]api.Due{due(1, 729, 1)}, 5, api.ErrArg},
		{[]api.Due{due(1, 729, 1)}, 728, api.ErrArg},
		{[]api.Due{due(1, 3, 0)}, 5, api.ErrArg},
		{[]api.Due{due(1, 3, -1)}, 5, api.ErrArg},
		{[]api.Due{due(1, 3, 1<<30+1)}, 5, api.ErrArg},
		{[]api.Due{due(1, 3, 1<<63-1)}, 5, api.ErrArg},
		{[]api.Due{due(1, 9, 0)}, 5, api.ErrArg},
		{[]api.Due{ok}, -1, api.ErrArg},
		{[]api.Due{ok}, 729, api.ErrArg},
		{nil, 729, api.ErrArg},
		{nil, -1 << 63, api.ErrArg},
		{nil, 1<<63 - 1, api.ErrArg},
	}
}

// anyDues returns payments.
func anyDues(r *rand.Rand, t api.Tree) []api.Due {
	var l []api.Due
	for range min(len(t.Payers), 1) * r.IntN(api.MaxDues+1) {
		l = append(l, due(t.Payers[r.IntN(len(t.Payers))].ID, r.IntN(30), 1+r.IntN(1000)))
	}
	return l
}

// P8.9, against the chapter's definitions; P8.16: what all owe, and the purse, are together the whole.
func TestDues(t *testing.T) {
	large(52, 150, func(r *rand.Rand, w api.Tree) {
		l := anyDues(r, w)
		pence, _ := levy.Pence(w)
		for _, day := range []int{0, 1, r.IntN(30), 29, api.MaxDay} {
			owed, purse := slices.Clone(pence), 0
			for i, p := range w.Payers {
				for _, x := range l {
					if x.ID == p.ID && x.Day <= day {
						owed[i] -= x.Pence
						purse += x.Pence
					}
				}
			}
			a, e := levy.Arrears(w, l, day)
			n, f := levy.Purse(w, l, day)
			if !slices.Equal(a, owed) || n != purse || e != api.OK || f != api.OK {
				t.Fatal(w, l, day, a, n, e, f)
			}
			if total(a)+n != wholeOf(w) {
				t.Fatal("the purse", w, l, day, a, n)
			}
		}
	})
}
