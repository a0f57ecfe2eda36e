package fair_test

import (
	"cmp"
	"math/rand/v2"
	"slices"
	"testing"

	"drowner/api"
	"drowner/fair"
)

// many returns tenants with the IDs from 1 on.
func many(n, most int) []api.Tenant {
	var l []api.Tenant
	for i := range n {
		l = append(l, tenant(i+1, most))
	}
	return l
}

// slots returns slots with the IDs from 1 on, for the same users.
func slots(n int, users ...int) []api.Slot {
	var l []api.Slot
	for i := range n {
		l = append(l, slot(i+1, users...))
	}
	return l
}

type badPool struct {
	name string
	p    api.Pool
	want api.Errno
}

// badPools returns pools that are not valid, with the error of each.
func badPools() []badPool {
	two := many(2, 9)
	return []badPool{
		{"13 tenants", pool(many(13, 9)), api.ErrLimit},
		{"41 slots", pool(two, slots(41, 1)...), api.ErrLimit},
		{"41 slots, behind a tenant without an ID", pool([]api.Tenant{tenant(0, 9)}, slots(41)...), api.ErrLimit},
		{"13 tenants with the same ID", pool(slices.Repeat(many(1, 9), 13)), api.ErrLimit},
		{"a tenant 0", pool([]api.Tenant{tenant(0, 9)}), api.ErrArg},
		{"a tenant less than 0", pool([]api.Tenant{tenant(-1, 9)}), api.ErrArg},
		{"a tenant that is too great", pool([]api.Tenant{tenant(api.MaxID+1, 9)}), api.ErrArg},
		{"less than no slots", pool([]api.Tenant{tenant(1, -1)}), api.ErrArg},
		{"more slots than there can be", pool([]api.Tenant{tenant(1, 41)}), api.ErrArg},
		{"a tenant twice", pool([]api.Tenant{tenant(3, 9), tenant(1, 9), tenant(3, 2)}), api.ErrTwice},
		{"a tenant twice, and none that is right", pool([]api.Tenant{tenant(1, 9), tenant(1, 41)}), api.ErrArg},
		{"a tenant twice, then a wrong one", pool([]api.Tenant{tenant(1, 9), tenant(1, 9), tenant(0, 9)}), api.ErrTwice},
		{"a wrong one, then a tenant twice", pool([]api.Tenant{tenant(2, 99), tenant(1, 9), tenant(1, 9)}), api.ErrArg},
		{"a slot 0", pool(two, slot(0, 1)), api.ErrArg},
		{"a slot less than 0", pool(two, slot(-7, 1)), api.ErrArg},
		{"a slot that is too great", pool(two, slot(api.MaxID+1, 1)), api.ErrArg},
		{"a user who is no tenant", pool(two, slot(1, 1, 3)), api.ErrArg},
		{"nobody as a user", pool(two, slot(1, 0, 1)), api.ErrArg},
		{"users in no order", pool(two, slot(1, 2, 1)), api.ErrArg},
		{"a user twice", pool(two, slot(1, 2, 2)), api.ErrArg},
		{"users of no tenants", pool(nil, slot(1, 1)), api.ErrArg},
		{"a slot twice", pool(two, slot(4, 1), slot(5, 1), slot(4)), api.ErrTwice},
		{"a slot twice, and wrong users", pool(two, slot(4, 1), slot(4, 3)), api.ErrArg},
		{"a slot twice, then a wrong one", pool(two, slot(4, 1), slot(4), slot(0)), api.ErrTwice},
		{"a wrong slot, then one twice", pool(two, slot(5, 2, 1), slot(4), slot(4)), api.ErrArg},
		{"a tenant twice, ahead of a wrong slot", pool([]api.Tenant{tenant(1, 9), tenant(1, 9)}, slot(0)), api.ErrTwice},
	}
}

// P6.1: Check.
func TestCheck(t *testing.T) {
	for _, x := range badPools() {
		want(t, x.name, fair.Check(x.p), x.want)
	}
	for i, p := range []api.Pool{
		{}, example(), pool(many(12, 40), slots(40, 1, 5, 12)...), pool(many(12, 0)), pool(nil, slots(40)...),
		pool([]api.Tenant{tenant(api.MaxID, 40), tenant(1, 0)}, slot(api.MaxID, 1, api.MaxID), slot(1)),
		pool([]api.Tenant{tenant(7, 1)}, slot(7, 7)),
	} {
		if e := fair.Check(p); e != api.OK {
			t.Error(i, e)
		}
	}
}

// lists returns all lists of some numbers.
func lists(n int, of []int) [][]int {
	all := [][]int{{}}
	for range n {
		var longer [][]int
		for _, l := range all {
			for _, x := range of {
				longer = append(longer, append(slices.Clone(l), x))
			}
		}
		all = longer
	}
	return all
}

// P6.1: which lists are sharings, and what their counts are.
func TestCheckGiven(t *testing.T) {
	right, wrong := 0, 0
	small(1, 60, func(r *rand.Rand, p api.Pool) {
		p.Slots = p.Slots[:min(4, len(p.Slots))]
		ids := []int{0, -1, 1 << 50, 3}
		for _, t := range p.Tenants {
			ids = append(ids, t.ID)
		}
		n := len(p.Slots)
		all := append(lists(n, ids), make([]int, n+1))
		if n > 0 {
			all = append(all, make([]int, n-1))
		}
		for _, l := range all {
			wanted := api.OK
			if !isSharing(p, l) {
				wanted = api.ErrArg
				wrong++
			} else {
				right++
			}
			got := fair.CheckGiven(p, l)
			counts, e := fair.Counts(p, l)
			if got != wanted || e != wanted {
				t.Fatal(p, l, got, e, wanted)
			}
			if e == api.OK && !slices.Equal(counts, countsOf(p, l)) || e != api.OK && len(counts) > 0 {
				t.Fatal(p, l, counts)
			}
		}
	})
	if right < 500 || wrong < 500 {
		t.Error("only", right, wrong)
	}
}

// A sharing may be nil where there are no slots, and gives nobody more than it can have.
func TestCheckGivenEdges(t *testing.T) {
	p := pool([]api.Tenant{tenant(1, 2), tenant(2, 0)}, slot(1, 1), slot(2, 1, 2), slot(3, 1))
	for _, x := range []struct {
		p    api.Pool
		l    []int
		want api.Errno
	}{
		{api.Pool{}, nil, api.OK}, {api.Pool{}, []int{0}, api.ErrArg}, {pool(many(2, 1)), nil, api.OK},
		{p, nil, api.ErrArg}, {p, []int{0, 0, 0}, api.OK}, {p, []int{1, 0, 1}, api.OK}, {p, []int{1, 1, 1}, api.ErrArg},
		{p, []int{1, 2, 0}, api.ErrArg}, {p, []int{2, 1, 0}, api.ErrArg}, {p, []int{0, 0, 0, 0}, api.ErrArg},
	} {
		want(t, "CheckGiven", fair.CheckGiven(x.p, x.l), x.want)
	}
	n, e := fair.Counts(p, []int{0, 1, 1})
	if !slices.Equal(n, []int{2, 0}) || e != api.OK {
		t.Error(n, e)
	}
}

// P6.1: Compare.
func TestCompare(t *testing.T) {
	seen := map[int]int{}
	small(2, 150, func(r *rand.Rand, p api.Pool) {
		all := sharings(p)
		for range 60 {
			a, b := all[r.IntN(len(all))], all[r.IntN(len(all))]
			wanted := slices.Compare(ladderOf(p, a), ladderOf(p, b))
			got, e := fair.Compare(p, a, b)
			back, f := fair.Compare(p, b, a)
			if got != wanted || back != -wanted || cmp.Or(e, f) != api.OK {
				t.Fatal(p, a, b, got, back, wanted, e, f)
			}
			seen[got]++
		}
	})
	if seen[0] < 100 || seen[1] < 100 || seen[-1] < 100 {
		t.Error("only", seen)
	}
}

func TestCompareExamples(t *testing.T) {
	p := pool([]api.Tenant{tenant(1, 9), tenant(2, 9), tenant(3, 9)}, slots(9, 1, 2, 3)...)
	for _, x := range []struct {
		a, b []int
		want int
	}{
		{[]int{1, 1, 2, 2, 3, 3, 0, 0, 0}, []int{1, 2, 2, 2, 2, 3, 3, 3, 3}, 1}, // 2 2 2 and 1 4 4
		{[]int{1, 1, 2, 2, 3, 3, 0, 0, 0}, []int{3, 3, 1, 1, 2, 2, 0, 0, 0}, 0},
		{[]int{1, 1, 1, 1, 1, 1, 1, 1, 1}, []int{0, 0, 0, 0, 0, 0, 0, 1, 2}, -1}, // 0 0 9 and 0 1 1
		{[]int{1, 2, 3, 0, 0, 0, 0, 0, 0}, []int{1, 2, 3, 3, 0, 0, 0, 0, 0}, -1},
	} {
		if c, e := fair.Compare(p, x.a, x.b); c != x.want || e != api.OK {
			t.Error(x, c, e)
		}
	}
	if c, e := fair.Compare(api.Pool{}, nil, nil); c != 0 || e != api.OK {
		t.Error(c, e)
	}
}
