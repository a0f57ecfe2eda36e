package fair_test

import (
	"slices"
	"testing"

	"drowner/api"
	"drowner/fair"
)

// Arguments are neither modified nor kept, and results are new memory (R6).

// roomy returns a pool with room behind all its lists, in which nothing may be written.
func roomy() api.Pool {
	p := example()
	p.Tenants = slices.Grow(p.Tenants, 5)
	p.Slots = slices.Grow(p.Slots, 5)
	for i := range p.Slots {
		p.Slots[i].Users = slices.Grow(p.Slots[i].Users, 5)
	}
	return p
}

// isZero reports whether there is nothing behind a list.
func isZero(l []int) bool {
	return !slices.ContainsFunc(l[:cap(l)][len(l):], func(n int) bool { return n != 0 })
}

func isClean(p api.Pool) bool {
	if !samePool(p, example()) || slices.ContainsFunc(p.Tenants[:cap(p.Tenants)][3:], func(t api.Tenant) bool { return t != api.Tenant{} }) {
		return false
	}
	for _, x := range p.Slots {
		if !isZero(x.Users) {
			return false
		}
	}
	return !slices.ContainsFunc(p.Slots[:cap(p.Slots)][5:], func(x api.Slot) bool { return x.ID != 0 || x.Users != nil })
}

func TestArgumentsStay(t *testing.T) {
	p := roomy()
	for _, l := range [][]int{{2, 1, 1, 2, 3}, {1, 1, 1, 2, 3}, {0, 0, 0, 0, 0}} {
		g, h := slices.Grow(slices.Clone(l), 5), slices.Grow(slices.Clone(l), 5)
		chain := slices.Grow([]api.Shift{shift(13, 2)}, 5)
		for _, c := range calls() {
			for _, id := range []int{11, 12, 13, 14, 15} {
				c.do(question{p: p, a: g, b: h, slot: id, tenant: id - 11, chain: chain})
				if !isClean(p) || !slices.Equal(g, l) || !slices.Equal(h, l) || !isZero(g) || !isZero(h) {
					t.Fatal(c.name, id, p, g, h)
				}
				if !slices.Equal(chain[:cap(chain)][:2], []api.Shift{shift(13, 2), {}}) {
					t.Fatal(c.name, chain)
				}
			}
		}
	}
	f := api.Fair{Given: slices.Grow(fairly(), 5), Labels: slices.Grow([]int{1, 1, 1}, 5)}
	want(t, "CheckFair", fair.CheckFair(p, f), api.OK)
	if !slices.Equal(f.Given, fairly()) || !slices.Equal(f.Labels, []int{1, 1, 1}) || !isZero(f.Given) || !isZero(f.Labels) {
		t.Error(f)
	}
	gone := slices.Grow([]int{14, 99, 11}, 5)
	fair.Without(p, gone)
	if !slices.Equal(gone, []int{14, 99, 11}) || !isZero(gone) || !isClean(p) {
		t.Error(gone)
	}
}

// fill writes into all of a list, and behind it.
func fill[T any](l []T, x T) {
	l = l[:cap(l)]
	for i := range l {
		l[i] = x
	}
}

// spoil writes into all of a pool.
func spoil(p api.Pool) {
	for _, x := range p.Slots[:cap(p.Slots)] {
		fill(x.Users, -99)
	}
	fill(p.Tenants, tenant(-99, -99))
	fill(p.Slots, slot(-99))
}

// results returns all lists of numbers of all results, and all pools.
func results(p api.Pool) ([][]int, []api.Pool) {
	n, _ := fair.Counts(p, fairly())
	f, _ := fair.Fairest(p)
	l, _ := fair.Ladder(p)
	a, _ := fair.Apply(p, []int{1, 1, 1, 2, 3}, []api.Shift{shift(13, 2)})
	m, _ := fair.Mended(p, fairly(), 12)
	most, _ := fair.Without(p, []int{12})
	all, _ := fair.Without(p, nil)
	none, _ := fair.Absent(p, 2)
	r, _ := fair.New(p.Tenants)
	for _, x := range p.Slots {
		r.Add(x)
	}
	return [][]int{n, f.Given, f.Labels, l, a, m, r.Given(), r.Given()}, []api.Pool{most, all, none, r.Pool(), r.Pool()}
}

func TestResultsAreNew(t *testing.T) {
	p := roomy()
	before, pools := results(p)
	lists, others := results(p)
	for i := range lists {
		fill(lists[i], -99)
		for j := i + 1; j < len(lists); j++ {
			if slices.Contains(lists[j], -99) {
				t.Error("shared", i, j)
			}
		}
	}
	for i := range others {
		// Users of one slot are not those of another one, and nothing else is theirs, either.
		for j, x := range others[i].Slots {
			fill(x.Users, -99)
			for k := j + 1; k < len(others[i].Slots); k++ {
				if slices.Contains(others[i].Slots[k].Users, -99) {
					t.Error("shared", i, j, k)
				}
			}
		}
		spoil(others[i])
		for j := i + 1; j < len(others); j++ {
			if !samePool(others[j], pools[j]) {
				t.Error("shared", i, j, others[j])
			}
		}
	}
	again, next := results(p)
	for i := range again {
		if !slices.Equal(again[i], before[i]) {
			t.Error("kept", i, again[i], before[i])
		}
	}
	for i := range next {
		if !samePool(next[i], pools[i]) {
			t.Error("kept", i, next[i], pools[i])
		}
	}
	if !isClean(p) {
		t.Error("an argument is shared", p)
	}
}

// Chains and what is sure are new, too.
func TestShiftsAreNew(t *testing.T) {
	p, g := row(5, 1, false)
	a, _, _ := fair.Chain(p, g)
	b, _, _ := fair.Chain(p, g)
	fill(a, shift(-99, -99))
	if slices.Contains(b, shift(-99, -99)) || !isChain(p, g, b) {
		t.Error(b)
	}
	a, _ = fair.Surely(example())
	b, _ = fair.Surely(example())
	fill(a, shift(-99, -99))
	if len(b) != 3 || slices.Contains(b, shift(-99, -99)) {
		t.Error(b)
	}
}

// A round keeps nothing of its arguments, and gives nothing of its own away.
func TestRoundsKeepNothing(t *testing.T) {
	p := example()
	r, _ := fair.New(p.Tenants)
	fill(p.Tenants, tenant(-99, -99))
	for _, x := range p.Slots {
		users := slices.Grow(slices.Clone(x.Users), 5)
		want(t, "Add", r.Add(slot(x.ID, users...)), api.OK)
		fill(users, -99)
		if l := r.Pool().Slots; !slices.Equal(l[len(l)-1].Users, x.Users) {
			t.Error(l, x)
		}
	}
	g := r.Given()
	before := slices.Clone(g)
	fill(g, -99)
	spoil(r.Pool())
	if !samePool(r.Pool(), example()) || !slices.Equal(r.Given(), before) {
		t.Error(r.Pool(), r.Given())
	}
	bad := []int{2, 1}
	want(t, "Add", r.Add(slot(99, bad...)), api.ErrArg)
	if !slices.Equal(bad, []int{2, 1}) {
		t.Error(bad)
	}
}
