package fair_test

import (
	"math/rand/v2"
	"slices"
	"testing"

	"drowner/api"
	"drowner/fair"
)

// P6.2, P6.9: what Fairest returns is proved, and is one of the fairest of all sharings, and its ladder is theirs.
func TestFairest(t *testing.T) {
	small(10, 500, func(r *rand.Rand, p api.Pool) {
		ladder, all := fairestOf(p)
		f, e := fair.Fairest(p)
		if e != api.OK || !proves(p, f.Given, f.Labels) {
			t.Fatal(p, f, e)
		}
		if !slices.ContainsFunc(all, func(l []int) bool { return slices.Equal(l, f.Given) }) {
			t.Fatal(p, f, all)
		}
		if l, e := fair.Ladder(p); e != api.OK || !slices.Equal(l, ladder) {
			t.Fatal(p, l, ladder, e)
		}
	})
}

// P6.2, P6.8: labels prove what Fairest returns in large pools, too, and nothing can be put right in it.
func TestFairestLarge(t *testing.T) {
	large(11, 300, func(r *rand.Rand, p api.Pool) {
		f, e := fair.Fairest(p)
		if e != api.OK || !proves(p, f.Given, f.Labels) || fair.CheckFair(p, f) != api.OK {
			t.Fatal(p, f, e)
		}
		if l, e := fair.Ladder(p); e != api.OK || !slices.Equal(l, ladderOf(p, f.Given)) {
			t.Fatal(p, f, l, e)
		}
		if c, is, e := fair.Chain(p, f.Given); is || len(c) > 0 || e != api.OK {
			t.Fatal(p, f, c, is, e)
		}
		if x, is, e := fair.Envy(p, f.Given); is || x != (api.Shift{}) || e != api.OK {
			t.Fatal(p, f, x, is, e)
		}
	})
}

func TestFairestEdges(t *testing.T) {
	for i, x := range []struct {
		p      api.Pool
		ladder []int
	}{
		{api.Pool{}, nil},
		{pool(nil, slot(1), slot(2)), nil},
		{pool(many(3, 4)), []int{0, 0, 0}},
		{pool(many(2, 0), slot(1, 1, 2), slot(2, 2)), []int{0, 0}},
		{pool(many(1, 40), slots(40, 1)...), []int{40}},
		{pool(many(1, 39), slots(40, 1)...), []int{39}},
		{pool(many(2, 40), slots(40, 2)...), []int{0, 40}},
		{pool(many(3, 40), slots(40, 1, 2, 3)...), []int{13, 13, 14}},
		{pool([]api.Tenant{tenant(1, 1), tenant(2, 9)}, slots(6, 1, 2)...), []int{1, 5}},
		{pool([]api.Tenant{tenant(3, 1), tenant(2, 9), tenant(1, 9)}, slots(5, 1, 2, 3)...), []int{1, 2, 2}},
		{example(), []int{1, 2, 2}},
	} {
		f, e := fair.Fairest(x.p)
		if e != api.OK || !proves(x.p, f.Given, f.Labels) || fair.CheckFair(x.p, f) != api.OK {
			t.Error(i, f, e)
		}
		if l, e := fair.Ladder(x.p); e != api.OK || !slices.Equal(l, x.ladder) {
			t.Error(i, l, e)
		}
	}
}

// near returns labels, some of which are others.
func near(r *rand.Rand, labels []int) []int {
	l := slices.Clone(labels)
	for i := range l {
		switch r.IntN(12) {
		case 0:
			l[i]++
		case 1:
			l[i]--
		case 2:
			l[i] = r.IntN(45) - 2
		case 3:
			l[i] = 41
		}
	}
	if r.IntN(20) == 0 {
		l = append(l, 41)
	}
	if r.IntN(20) == 0 && len(l) > 0 {
		l = l[1:]
	}
	return l
}

// P6.2, P6.8: CheckFair takes just the labels that prove, and what they prove is so.
func TestCheckFair(t *testing.T) {
	right, wrong := 0, 0
	small(12, 300, func(r *rand.Rand, p api.Pool) {
		ladder, _ := fairestOf(p)
		f, _ := fair.Fairest(p)
		all := sharings(p)
		for range 60 {
			x := api.Fair{Given: f.Given, Labels: near(r, f.Labels)}
			if r.IntN(2) == 0 {
				x.Given = all[r.IntN(len(all))]
			}
			e := fair.CheckFair(p, x)
			is := proves(p, x.Given, x.Labels)
			if is && e != api.OK || !is && e != api.ErrProof {
				t.Fatal(p, x, is, e)
			}
			if !is {
				wrong++
				continue
			}
			right++
			if !slices.Equal(ladderOf(p, x.Given), ladder) {
				t.Fatal(p, x, "is not the fairest", ladder)
			}
			if c, is, e := fair.Chain(p, x.Given); is || e != api.OK {
				t.Fatal(p, x, c, e)
			}
			for range 5 {
				if n, e := fair.Compare(p, all[r.IntN(len(all))], x.Given); n > 0 || e != api.OK {
					t.Fatal(p, x, n, e)
				}
			}
		}
	})
	if right < 500 || wrong < 500 {
		t.Error("only", right, wrong)
	}
}

// P6.2: each fairest sharing has labels that prove it: for each tenant how few slots those have who could get more from it.
func TestAllAreProved(t *testing.T) {
	small(13, 150, func(r *rand.Rand, p api.Pool) {
		_, all := fairestOf(p)
		for _, g := range all {
			labels := make([]int, len(p.Tenants))
			for i, t := range p.Tenants {
				labels[i] = 41
				if more, has := room(p, g, t.ID); more > 0 {
					labels[i] = has
				}
				for _, l := range links(p, g)[1:] {
					if more, has := room(p, g, l[len(l)-1].To); more > 0 && g[place(p, l[0].Slot)] == t.ID {
						labels[i] = min(labels[i], has)
					}
				}
			}
			if e := fair.CheckFair(p, api.Fair{Given: g, Labels: labels}); e != api.OK {
				t.Fatal(p, g, labels, e)
			}
		}
	})
}

// P6.2: each sentence on labels counts by itself.
func TestCheckFairSentences(t *testing.T) {
	two := pool([]api.Tenant{tenant(1, 9), tenant(2, 9)}, slot(1, 1), slot(2, 1), slot(3, 2))
	full := pool([]api.Tenant{tenant(1, 1), tenant(2, 9)}, slot(1, 1), slot(2, 1), slot(3, 1, 2))
	most := pool(many(1, 40), slots(40, 1)...)
	for _, x := range []struct {
		name   string
		p      api.Pool
		given  []int
		labels []int
		want   api.Errno
	}{
		{"labels that are counts", two, []int{1, 1, 2}, []int{2, 1}, api.OK},
		{"labels that are less by one", two, []int{1, 1, 2}, []int{1, 0}, api.OK},
		{"a label that is less by two", two, []int{1, 1, 2}, []int{0, 0}, api.ErrProof},
		{"a label greater than a count", two, []int{1, 1, 2}, []int{2, 2}, api.ErrProof},
		{"a label of -1, with a count of 0", pool(many(1, 9)), nil, []int{-1}, api.ErrProof},
		{"a label of 0, with a count of 0", pool(many(1, 9)), nil, []int{0}, api.OK},
		{"a slot that somebody could use", two, []int{1, 0, 2}, []int{1, 1}, api.ErrProof},
		{"nobody could use more", full, []int{1, 0, 2}, []int{41, 1}, api.OK},
		{"a tenant is full, and keeps a slot from another one", full, []int{0, 0, 1}, []int{41, 0}, api.ErrProof},
		{"a full tenant with a lower label, and a slot that nobody has", full, []int{1, 0, 2}, []int{40, 1}, api.ErrProof},
		{"a label that is too great", full, []int{1, 0, 2}, []int{42, 1}, api.ErrProof},
		{"all slots", most, slices.Repeat([]int{1}, 40), []int{41}, api.OK},
		{"all slots, and a label less by one", most, slices.Repeat([]int{1}, 40), []int{39}, api.OK},
		{"all slots, and a label less by two", most, slices.Repeat([]int{1}, 40), []int{38}, api.ErrProof},
		{"too few labels", two, []int{1, 1, 2}, []int{2}, api.ErrProof},
		{"too many labels", two, []int{1, 1, 2}, []int{2, 1, 41}, api.ErrProof},
		{"no labels", two, []int{1, 1, 2}, nil, api.ErrProof},
		{"no sharing", two, []int{1, 2, 2}, []int{1, 1}, api.ErrProof},
		{"a sharing that is too long", two, []int{1, 1, 2, 0}, []int{2, 1}, api.ErrProof},
		{"a sharing of too many", full, []int{1, 1, 2}, []int{41, 1}, api.ErrProof},
		{"the greatest numbers", two, []int{1, 1, 2}, []int{1<<63 - 1, -1 << 63}, api.ErrProof},
		{"nothing", api.Pool{}, nil, nil, api.OK},
		{"slots that nobody can use", pool(nil, slots(40)...), make([]int, 40), nil, api.OK},
	} {
		want(t, x.name, fair.CheckFair(x.p, api.Fair{Given: x.given, Labels: x.labels}), x.want)
	}
}
