package levy_test

import (
	"math/rand/v2"
	"slices"
	"testing"

	"drowner/api"
	"drowner/levy"
)

type badTree struct {
	name string
	t    api.Tree
	want api.Errno
}

// badTrees returns trees that are not valid, with the error of each.
func badTrees() []badTree {
	changed := func(do func(t *api.Tree)) api.Tree { return with(example(), do) }
	at := func(i int, x api.Reach) api.Tree { return changed(func(t *api.Tree) { t.Reaches[i] = x }) }
	of := func(l ...api.Payer) api.Tree { return changed(func(t *api.Tree) { t.Payers = l }) }
	wrong := slices.Repeat([]api.Reach{reach(7, -1)}, 25)
	ones := slices.Repeat([]api.Payer{payer(1, 0, 1)}, 25)
	return []badTree{
		{"25 reaches", changed(func(t *api.Tree) { t.Reaches = slices.Repeat([]api.Reach{reach(-1, 1)}, 25) }), api.ErrLimit},
		{"25 reaches, all wrong", changed(func(t *api.Tree) { t.Reaches = wrong }), api.ErrLimit},
		{"25 payers, all the same", of(ones...), api.ErrLimit},
		{"25 payers, and a wrong reach", changed(func(t *api.Tree) { t.Payers, t.Reaches[0].Above = ones, 0 }), api.ErrLimit},
		{"a reach above itself", at(1, reach(1, 6)), api.ErrArg},
		{"a reach above itself, the first", at(0, reach(0, 6)), api.ErrArg},
		{"a reach behind", at(1, reach(2, 6)), api.ErrArg},
		{"no reach", at(1, reach(9, 6)), api.ErrArg},
		{"less than -1", at(1, reach(-2, 6)), api.ErrArg},
		{"the least number", at(3, reach(-1<<63, 6)), api.ErrArg},
		{"less than nothing", at(1, reach(0, -1)), api.ErrArg},
		{"a great cost", at(3, reach(1, api.MaxCost+1)), api.ErrArg},
		{"the greatest number", at(3, reach(1, 1<<63-1)), api.ErrArg},
		{"a wrong reach, then payers with the same ID", changed(func(t *api.Tree) { t.Reaches[3].Cost, t.Payers[1].ID = -1, 1 }), api.ErrArg},
		{"a payer 0", of(payer(0, 1, 1)), api.ErrArg},
		{"a payer less than 0", of(payer(-1, 1, 1)), api.ErrArg},
		{"a payer that is too great", of(payer(api.MaxID+1, 1, 1)), api.ErrArg},
		{"at no reach", of(payer(1, 4, 1)), api.ErrArg},
		{"at the river", of(payer(1, -1, 1)), api.ErrArg},
		{"at the greatest number", of(payer(1, 1<<63-1, 1)), api.ErrArg},
		{"without a reach", api.Tree{Payers: []api.Payer{payer(1, 0, 1)}}, api.ErrArg},
		{"without a weight", of(payer(1, 1, 0)), api.ErrArg},
		{"a weight less than 0", of(payer(1, 1, -1)), api.ErrArg},
		{"a weight less than 0 beside a great one", of(payer(1, 1, 25), payer(2, 1, -1)), api.ErrArg},
		{"an ID twice", of(payer(7, 1, 1), payer(2, 1, 1), payer(7, 2, 1)), api.ErrTwice},
		{"an ID twice, in a wrong payer", of(payer(7, 1, 1), payer(7, 4, 1)), api.ErrArg},
		{"an ID twice, then a wrong payer", of(payer(7, 1, 1), payer(7, 1, 1), payer(0, 1, 1)), api.ErrTwice},
		{"a wrong payer, then an ID twice", of(payer(7, 1, 0), payer(2, 1, 1), payer(2, 1, 1)), api.ErrArg},
		{"an ID twice, with great weights", of(payer(7, 1, 20), payer(7, 1, 20)), api.ErrTwice},
		{"great weights, then a wrong payer", of(payer(7, 1, 20), payer(8, 1, 20), payer(9, 4, 1)), api.ErrArg},
		{"a weight of 25", of(payer(1, 1, 25)), api.ErrLimit},
		{"weights of 25", of(payer(1, 1, 12), payer(2, 2, 13)), api.ErrLimit},
		{"the greatest weight", of(payer(1, 1, 1<<63-1)), api.ErrLimit},
		{"weights that are 0 as int", of(payer(1, 1, 1<<62), payer(2, 1, 1<<62), payer(3, 1, 1<<62), payer(4, 1, 1<<62)), api.ErrLimit},
		{"weights that are 2 as int", of(payer(1, 1, 1<<63-1), payer(2, 1, 1<<63-1), payer(3, 1, 4)), api.ErrLimit},
		{"weights that are less than 0 as int", of(payer(1, 1, 1<<62), payer(2, 1, 1<<62)), api.ErrLimit},
	}
}

// full returns a tree with as many reaches and payers as there can be, in one row from the river on.
func full() api.Tree {
	var t api.Tree
	for i := range api.MaxReaches {
		t.Reaches = append(t.Reaches, reach(i-1, api.MaxCost))
	}
	for i := range api.MaxUsers {
		t.Payers = append(t.Payers, payer(api.MaxID-i, i, 1))
	}
	return t
}

// P8.1: Check.
func TestCheck(t *testing.T) {
	for _, x := range badTrees() {
		want(t, x.name, levy.Check(x.t), x.want)
	}
	for i, x := range []api.Tree{
		{}, {Reaches: []api.Reach{}, Payers: []api.Payer{}}, example(), brook(0), brook(api.MaxCost), full(),
		with(example(), func(t *api.Tree) { t.Payers = nil }),
		with(example(), func(t *api.Tree) { t.Reaches[3].Above = -1 }),
		with(example(), func(t *api.Tree) { t.Reaches[3].Above = 2 }),
		with(example(), func(t *api.Tree) { t.Payers[0] = payer(api.MaxID, 0, 21) }),
		with(example(), func(t *api.Tree) { t.Payers = []api.Payer{payer(1, 3, 24)} }),
		with(full(), func(t *api.Tree) { t.Payers = t.Payers[12:]; t.Payers[3].Weight = 13 }),
	} {
		if e := levy.Check(x); e != api.OK {
			t.Error(i, x, e)
		}
	}
}

// P8.2, in the chapter's examples, and where there is nothing.
func TestReachesExamples(t *testing.T) {
	for _, x := range []struct {
		t           api.Tree
		id          int
		path        []int
		reach       int
		users, used []int
	}{
		{example(), 1, []int{0, 1}, 0, []int{1, 2, 3, 4}, []int{0, 1, 2, 3}},
		{example(), 2, []int{0, 2}, 1, []int{1, 3}, []int{0, 1, 2, 3}},
		{example(), 3, []int{0, 1, 3}, 3, []int{3}, []int{0, 1, 2, 3}},
		{with(example(), func(t *api.Tree) { slices.Reverse(t.Payers) }), 4, []int{0}, 0, []int{1, 2, 3, 4}, []int{0, 1, 2, 3}},
		{with(example(), func(t *api.Tree) { t.Payers = t.Payers[1:2] }), 2, []int{0, 2}, 3, nil, []int{0, 2}},
		{with(example(), func(t *api.Tree) { t.Reaches[1].Above = -1 }), 3, []int{1, 3}, 0, []int{2, 4}, []int{0, 1, 2, 3}},
	} {
		path, e := levy.Path(x.t, x.id)
		users, f := levy.Users(x.t, x.reach)
		used, g := levy.Used(x.t)
		if !slices.Equal(path, x.path) || !slices.Equal(users, x.users) || !slices.Equal(used, x.used) || e != api.OK || f != api.OK || g != api.OK {
			t.Error(x, path, users, used, e, f, g)
		}
	}
	for _, x := range []api.Tree{{}, with(example(), func(t *api.Tree) { t.Payers = nil })} {
		if l, e := levy.Used(x); len(l) > 0 || e != api.OK {
			t.Error(x, l, e)
		}
	}
	if l, e := levy.Users(with(example(), func(t *api.Tree) { t.Payers = nil }), 0); len(l) > 0 || e != api.OK {
		t.Error(l, e)
	}
}

// P8.2, against the chapter's definitions.
func TestReaches(t *testing.T) {
	unused := 0
	large(1, 300, func(r *rand.Rand, w api.Tree) {
		for _, p := range w.Payers {
			if l, e := levy.Path(w, p.ID); !slices.Equal(l, usedBy(w, []int{p.ID})) || e != api.OK {
				t.Fatal(w, p, l, e)
			}
		}
		for i := range w.Reaches {
			if l, e := levy.Users(w, i); !slices.Equal(l, idsOf(usersOf(w, i))) || e != api.OK {
				t.Fatal(w, i, l, e)
			}
		}
		l, e := levy.Used(w)
		if !slices.Equal(l, usedBy(w, everybody(w))) || e != api.OK {
			t.Fatal(w, l, e)
		}
		if 0 < len(l) && len(l) < len(w.Reaches) {
			unused++
		}
	})
	if unused < 50 {
		t.Error("only", unused)
	}
}
