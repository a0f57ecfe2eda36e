package levy_test

import (
	"math/rand/v2"
	"slices"
	"testing"

	"drowner/api"
	"drowner/levy"
)

// P8.7: Pence, in the chapter's examples, and at the edges.
func TestPenceExamples(t *testing.T) {
	one := api.Tree{Reaches: []api.Reach{reach(-1, 1)}, Payers: []api.Payer{payer(7, 0, 1), payer(3, 0, 1), payer(5, 0, 1)}}
	for _, x := range []struct {
		t    api.Tree
		want []int
	}{
		{brook(12), []int{6, 8, 10, 3}},
		{brook(13), []int{7, 8, 10, 3}},
		{brook(14), []int{7, 9, 10, 3}},
		{brook(15), []int{7, 9, 11, 3}},
		{brook(16), []int{7, 9, 11, 4}},
		{one, []int{1, 0, 0}},
		{with(one, func(t *api.Tree) { t.Payers[2].Weight = 20 }), []int{1, 0, 0}},
		{with(one, func(t *api.Tree) { t.Reaches[0].Cost = 0 }), []int{0, 0, 0}},
		// The shares are 1/2 and 1/2 of each reach: the first two must pay one of them, the others the other one.
		{api.Tree{
			Reaches: []api.Reach{reach(-1, 1), reach(-1, 1)},
			Payers:  []api.Payer{payer(1, 0, 1), payer(2, 0, 1), payer(3, 1, 1), payer(4, 1, 1)},
		}, []int{1, 0, 1, 0}},
		// The shares are 3/2, 3/2 and 1; if the first one pays 2, the second one must not.
		{api.Tree{
			Reaches: []api.Reach{reach(-1, 3), reach(0, 1)},
			Payers:  []api.Payer{payer(1, 1, 1), payer(2, 1, 1), payer(3, 0, 1)},
		}, []int{2, 1, 1}},
		// The shares are 1/3 and twice 5/6; still the first one pays the reach that all use, and the last one nothing.
		{api.Tree{
			Reaches: []api.Reach{reach(-1, 1), reach(0, 1)},
			Payers:  []api.Payer{payer(1, 0, 1), payer(2, 1, 1), payer(3, 1, 1)},
		}, []int{1, 1, 0}},
		{with(example(), func(t *api.Tree) { t.Payers = nil }), nil},
		{api.Tree{}, nil},
	} {
		if l, e := levy.Pence(x.t); !slices.Equal(l, x.want) || e != api.OK {
			t.Error(x, l, e)
		}
	}
}

// greatest returns the greatest list of fair pence of a small tree that differ from the shares by less than 1 each, and how many there are.
func greatest(t api.Tree) ([]int, int) {
	below, above := around(t)
	var best []int
	count := 0
	var fill func(l []int)
	fill = func(l []int) {
		if i := len(l); i < len(below) {
			for n := below[i]; n <= above[i]; n++ {
				fill(append(l, n))
			}
		} else if isFair(t, l) {
			best = slices.Clone(l)
			count++
		}
	}
	fill(nil)
	return best, count
}

// P8.7: Pence, against all lists of small trees.
func TestPence(t *testing.T) {
	several, late := 0, 0
	r := chance(40)
	for range 1000 {
		w := anyTree(r, 5, 7, 1+r.IntN(20))
		l, e := levy.Pence(w)
		best, count := greatest(w)
		if !slices.Equal(l, best) || e != api.OK || count == 0 {
			t.Fatal(w, l, best, count, e)
		}
		if count > 1 {
			several++
		}
		// Those are the ones by which it matters that no group may pay too much: one pays more, behind one who could not.
		below, above := around(w)
		not := false
		for i := range l {
			not = not || below[i] < above[i] && l[i] == below[i]
			if not && l[i] > below[i] {
				late++
				break
			}
		}
	}
	if several < 400 || late < 20 {
		t.Error("only", several, late)
	}
}

// P8.7: Pence of great trees are fair, by a flow; and no number could be greater, if those ahead of it stay.
func TestPenceLarge(t *testing.T) {
	large(41, 60, func(r *rand.Rand, w api.Tree) {
		l, e := levy.Pence(w)
		if e != api.OK || !isBetween(w, l, l) || total(l) != wholeOf(w) {
			t.Fatal(w, l, e)
		}
		below, above := around(w)
		for i, n := range l {
			if n < below[i] || n > above[i] {
				t.Fatal(w, l, below, above)
			}
			if n < above[i] {
				below[i]++
				if isBetween(w, below, above) {
					t.Fatal("more", w, l, i)
				}
			}
			below[i], above[i] = n, n
		}
	})
	l, e := levy.Pence(full())
	if e != api.OK || total(l) != 24*api.MaxCost || l[0] != 2731 {
		t.Error(l, e)
	}
}
