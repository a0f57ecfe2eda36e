package levy_test

import (
	"math/rand/v2"
	"slices"
	"testing"

	"drowner/api"
	"drowner/levy"
)

// P8.4, in the chapter's examples, and at the edges.
func TestSharesExamples(t *testing.T) {
	for _, x := range []struct {
		t    api.Tree
		want []api.Ratio
	}{
		{example(), ratios(6, 8, 10, 3)},
		{with(example(), func(t *api.Tree) { t.Payers[0].Weight = 2 }), []api.Ratio{ratio(44, 5), ratio(37, 5), ratio(42, 5), ratio(12, 5)}},
		{with(example(), func(t *api.Tree) { t.Reaches[0].Cost = 0 }), ratios(3, 5, 7, 0)},
		{with(example(), func(t *api.Tree) { t.Payers = t.Payers[3:] }), ratios(12)},
		{with(example(), func(t *api.Tree) { t.Payers = nil }), nil},
		{with(example(), func(t *api.Tree) { t.Reaches[1].Above = -1 }), ratios(3, 11, 7, 6)},
		{brook(0), ratios(3, 5, 7, 0)},
		{brook(13), []api.Ratio{ratio(25, 4), ratio(33, 4), ratio(41, 4), ratio(13, 4)}},
		{api.Tree{}, nil},
	} {
		if l, e := levy.Shares(x.t); !slices.Equal(l, x.want) || e != api.OK {
			t.Error(x, l, e)
		}
	}
	// The finest fractions there can be.
	for cost := api.MaxCost - 20; cost <= api.MaxCost; cost++ {
		x := with(full(), func(t *api.Tree) {
			for i := range t.Reaches {
				t.Reaches[i].Cost = cost
			}
		})
		if l, e := levy.Shares(x); !slices.Equal(l, lowestOf(sharesOf(x))) || e != api.OK {
			t.Error(cost, l, e)
		}
	}
}

func TestPiecesExamples(t *testing.T) {
	heavy := with(example(), func(t *api.Tree) { t.Payers[2].Weight = 3 })
	for _, x := range []struct {
		t    api.Tree
		id   int
		want []api.Ratio
		e    api.Errno
	}{
		{example(), 3, ratios(3, 3, 0, 4), api.OK},
		{example(), 4, ratios(3, 0, 0, 0), api.OK},
		{heavy, 3, []api.Ratio{ratio(6, 1), ratio(9, 2), ratio(0, 1), ratio(4, 1)}, api.OK},
		{heavy, 1, []api.Ratio{ratio(2, 1), ratio(3, 2), ratio(0, 1), ratio(0, 1)}, api.OK},
		{brook(0), 2, ratios(0, 0, 5, 0), api.OK},
		{example(), 5, nil, api.ErrNone},
		{example(), 0, nil, api.ErrNone},
		{api.Tree{}, 0, nil, api.ErrNone},
	} {
		if l, e := levy.Pieces(x.t, x.id); !slices.Equal(l, x.want) || e != x.e {
			t.Error(x, l, e)
		}
	}
}

// P8.4, against the chapter's definitions; P8.10: the shares are together the whole, and the pieces of a payer its share.
func TestShares(t *testing.T) {
	broken := 0
	large(20, 250, func(r *rand.Rand, w api.Tree) {
		l, e := levy.Shares(w)
		if !slices.Equal(l, lowestOf(sharesOf(w))) || e != api.OK {
			t.Fatal(w, l, e)
		}
		if n := sumOf(l); !n.IsInt() || n.Cmp(rat(ratio(wholeOf(w), 1))) != 0 {
			t.Fatal(w, l, n)
		}
		for i, p := range w.Payers {
			pieces, e := levy.Pieces(w, p.ID)
			if !slices.Equal(pieces, lowestOf(piecesOf(w, p))) || sumOf(pieces).Cmp(rat(l[i])) != 0 || e != api.OK {
				t.Fatal(w, p, pieces, l[i], e)
			}
			if l[i].Den > 100 {
				broken++
			}
		}
	})
	if broken < 200 {
		t.Error("only", broken)
	}
}

// P8.4: CheckShares.
func TestCheckShares(t *testing.T) {
	half := with(example(), func(t *api.Tree) { t.Payers[0].Weight = 2 })
	free := with(example(), func(t *api.Tree) { t.Reaches[0].Cost = 0 })
	for _, x := range []struct {
		name string
		t    api.Tree
		l    []api.Ratio
		want api.Errno
	}{
		{"right", example(), ratios(6, 8, 10, 3), api.OK},
		{"right fractions", half, []api.Ratio{ratio(44, 5), ratio(37, 5), ratio(42, 5), ratio(12, 5)}, api.OK},
		{"not in lowest terms", half, []api.Ratio{ratio(88, 10), ratio(37, 5), ratio(42, 5), ratio(12, 5)}, api.ErrProof},
		{"whole, not in lowest terms", example(), []api.Ratio{ratio(6, 1), ratio(8, 1), ratio(20, 2), ratio(3, 1)}, api.ErrProof},
		{"signs", example(), []api.Ratio{ratio(-6, -1), ratio(8, 1), ratio(10, 1), ratio(3, 1)}, api.ErrProof},
		{"0", free, ratios(3, 5, 7, 0), api.OK},
		{"0 of 2", free, []api.Ratio{ratio(3, 1), ratio(5, 1), ratio(7, 1), ratio(0, 2)}, api.ErrProof},
		{"0 of 0", free, []api.Ratio{ratio(3, 1), ratio(5, 1), ratio(7, 1), {}}, api.ErrProof},
		{"too few", example(), ratios(6, 8, 10), api.ErrProof},
		{"too many", example(), ratios(6, 8, 10, 3, 0), api.ErrProof},
		{"none", example(), nil, api.ErrProof},
		{"another order", example(), ratios(8, 6, 10, 3), api.ErrProof},
		{"the same sum", example(), ratios(7, 7, 10, 3), api.ErrProof},
		{"fair, but not the shares", example(), ratios(0, 17, 10, 0), api.ErrProof},
		{"the greatest numbers", example(), ratios(1<<63-1, -1<<63, 1, 1), api.ErrProof},
		{"nobody", api.Tree{}, nil, api.OK},
		{"nobody, as a list", api.Tree{}, []api.Ratio{}, api.OK},
		{"nobody, but something", api.Tree{}, ratios(0), api.ErrProof},
	} {
		want(t, x.name, levy.CheckShares(x.t, x.l), x.want)
	}
	large(21, 60, func(r *rand.Rand, w api.Tree) {
		l := lowestOf(sharesOf(w))
		want(t, "shares", levy.CheckShares(w, l), api.OK)
		for i := range l {
			other := slices.Clone(l)
			other[i].Num++
			want(t, "one more", levy.CheckShares(w, other), api.ErrProof)
			other[i] = l[i]
			other[i].Den++
			want(t, "a finer one", levy.CheckShares(w, other), api.ErrProof)
		}
	})
}
