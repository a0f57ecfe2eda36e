package fair_test

import (
	"math/rand/v2"
	"slices"
	"testing"

	"drowner/api"
	"drowner/fair"
)

// P6.3, P6.9: there is a chain unless the sharing is a fairest one; the one that is found is a shortest one.
func TestChain(t *testing.T) {
	long, none := 0, 0
	small(20, 150, func(r *rand.Rand, p api.Pool) {
		ladder, _ := fairestOf(p)
		all := sharings(p)
		r.Shuffle(len(all), func(i, j int) { all[i], all[j] = all[j], all[i] })
		// Where nobody has much, long ways are needed.
		slices.SortStableFunc(all, func(a, b []int) int { return sum(ladderOf(p, b)) - sum(ladderOf(p, a)) })
		for _, g := range all[:min(100, len(all))] {
			wanted := chainsOf(p, g)
			got, is, e := fair.Chain(p, g)
			if e != api.OK || is != (len(wanted) > 0) || is == slices.Equal(ladderOf(p, g), ladder) {
				t.Fatal(p, g, got, is, e, wanted)
			}
			if !is {
				none++
				if len(got) > 0 {
					t.Fatal(p, g, got)
				}
				continue
			}
			if !isChain(p, g, got) || len(got) != len(wanted[0]) || fair.CheckChain(p, g, got) != api.OK {
				t.Fatal(p, g, got, wanted[0])
			}
			long = max(long, len(got))
		}
	})
	if long < 3 || none < 200 {
		t.Error("only", long, none)
	}
}

func sum(l []int) int {
	n := 0
	for _, x := range l {
		n += x
	}
	return n
}

// row returns a pool in which each tenant but the last one has a slot that the next one can use, and the first one some more. If there is water, nobody has a slot that the first one can use.
func row(tenants, more int, water bool) (api.Pool, []int) {
	p := pool(many(tenants, 1))
	p.Tenants[0].Most += more
	var given []int
	for i := 1; i < tenants; i++ {
		p.Slots = append(p.Slots, slot(i, i, i+1))
		given = append(given, i)
	}
	for i := range more {
		p.Slots = append(p.Slots, slot(100+i, 1))
		given = append(given, 1)
	}
	if water {
		p.Slots = append(p.Slots, slot(200, 1))
		given = append(given, 0)
	}
	return p, given
}

// Chains can be as long as there are tenants, and not longer.
func TestLongChains(t *testing.T) {
	for n := 2; n <= api.MaxTenants; n++ {
		p, g := row(n, 1, false)
		if c, is, e := fair.Chain(p, g); !is || e != api.OK || len(c) != n-1 || !isChain(p, g, c) {
			t.Error(n, c, is, e)
		}
		p, g = row(n, 0, true)
		c, is, e := fair.Chain(p, g)
		if !is || e != api.OK || len(c) != n || !isChain(p, g, c) {
			t.Error(n, c, is, e)
		}
		want(t, "CheckChain", fair.CheckChain(p, g, c), api.OK)
		want(t, "CheckChain", fair.CheckChain(p, g, c[:n-1]), api.ErrProof)
		if l, e := fair.Ladder(p); e != api.OK || !slices.Equal(l, slices.Repeat([]int{1}, n)) {
			t.Error(n, l, e)
		}
	}
}

// Where ways part, each one goes on by itself, however long they are.
func TestWaysPart(t *testing.T) {
	for n := 2; n <= 10; n++ {
		for _, full := range []int{n + 1, n + 2} {
			p, g := row(n, 1, false)
			p.Tenants[n-1].Most = 1
			p.Tenants = append(p.Tenants, tenant(n+1, 1), tenant(n+2, 1))
			p.Tenants[full-1].Most = 0
			p.Slots = append(p.Slots, slot(n, n, n+1, n+2))
			g = append(g, n)
			c, is, e := fair.Chain(p, g)
			if !is || e != api.OK || len(c) != n || !isChain(p, g, c) {
				t.Error(n, full, c, is, e)
			}
		}
	}
}

// anyShifts returns shifts that link up, or nearly so.
func anyShifts(r *rand.Rand, p api.Pool, all [][]api.Shift) []api.Shift {
	l := slices.Clone(all[r.IntN(len(all))])
	id := func() int {
		if len(p.Tenants) == 0 || r.IntN(9) == 0 {
			return r.IntN(3) - 1
		}
		return p.Tenants[r.IntN(len(p.Tenants))].ID
	}
	for i := range l {
		if r.IntN(8) == 0 {
			l[i].To = id()
		}
		if r.IntN(8) == 0 {
			l[i].Slot = r.IntN(12)
		}
	}
	if r.IntN(3) == 0 {
		l = append(l, shift(r.IntN(12), id()))
	}
	return l
}

// P6.3, P6.8: CheckChain takes just chains, and what Apply returns is better.
func TestCheckChain(t *testing.T) {
	right, wrong := 0, 0
	small(21, 150, func(r *rand.Rand, p api.Pool) {
		all := sharings(p)
		for range 10 {
			g := all[r.IntN(len(all))]
			fits := links(p, g)
			for range 20 {
				l := anyShifts(r, p, fits)
				e := fair.CheckChain(p, g, l)
				next, f := fair.Apply(p, g, l)
				if !isChain(p, g, l) {
					wrong++
					if e != api.ErrProof || f != api.ErrProof || len(next) > 0 {
						t.Fatal(p, g, l, e, f)
					}
					continue
				}
				right++
				if e != api.OK || f != api.OK || !slices.Equal(next, behind(p, g, l)) {
					t.Fatal(p, g, l, e, next, f)
				}
				if n, e := fair.Compare(p, next, g); n != 1 || e != api.OK {
					t.Fatal(p, g, next, n, e)
				}
			}
		}
	})
	if right < 500 || wrong < 500 {
		t.Error("only", right, wrong)
	}
}

// P6.3: each sentence on chains counts by itself.
func TestCheckChainSentences(t *testing.T) {
	p := pool([]api.Tenant{tenant(1, 9), tenant(2, 2), tenant(3, 1), tenant(4, 9)},
		slot(11, 1, 2), slot(12, 1, 2), slot(13, 1, 4), slot(14, 1), slot(21, 2, 4), slot(22, 1, 2, 3), slot(31, 2, 3, 4), slot(99, 3))
	g := []int{1, 1, 1, 1, 2, 2, 3, 0}
	for _, x := range []struct {
		name string
		l    []api.Shift
		want api.Errno
	}{
		{"a chain", []api.Shift{shift(11, 2), shift(21, 4)}, api.OK},
		{"a longer one", []api.Shift{shift(12, 2), shift(22, 3), shift(31, 4)}, api.OK},
		{"of what nobody has", []api.Shift{shift(99, 3), shift(31, 4)}, api.OK},
		{"a single shift", []api.Shift{shift(13, 4)}, api.OK},
		{"from one with two to one with none", []api.Shift{shift(21, 4)}, api.OK},
		{"nothing", nil, api.ErrProof},
		{"no such slot", []api.Shift{shift(10, 4)}, api.ErrProof},
		{"no slot 0", []api.Shift{shift(0, 4)}, api.ErrProof},
		{"no such tenant", []api.Shift{shift(13, 5)}, api.ErrProof},
		{"to nobody", []api.Shift{shift(13, 0)}, api.ErrProof},
		{"to one who cannot use it", []api.Shift{shift(14, 4)}, api.ErrProof},
		{"to one who has it", []api.Shift{shift(11, 1)}, api.ErrProof},
		{"to one who has it, on the way", []api.Shift{shift(11, 2), shift(21, 2), shift(21, 4)}, api.ErrProof},
		{"a slot of another one", []api.Shift{shift(11, 2), shift(31, 4)}, api.ErrProof},
		{"a slot of the source again", []api.Shift{shift(11, 2), shift(13, 4)}, api.ErrProof},
		{"a slot that nobody has, on the way", []api.Shift{shift(13, 4), shift(99, 3)}, api.ErrProof},
		{"to the same one again", []api.Shift{shift(11, 2), shift(22, 3), shift(31, 2), shift(21, 4)}, api.ErrProof},
		{"to the source", []api.Shift{shift(11, 2), shift(22, 1), shift(13, 4)}, api.ErrProof},
		{"to one who is full", []api.Shift{shift(11, 2)}, api.ErrProof},
		{"to one who is full, from nobody", []api.Shift{shift(99, 3)}, api.ErrProof},
		{"from one who has only one more", []api.Shift{shift(31, 4)}, api.ErrProof},
		{"the same shift twice", []api.Shift{shift(13, 4), shift(13, 4)}, api.ErrProof},
		{"shifts in the wrong order", []api.Shift{shift(21, 4), shift(11, 2)}, api.ErrProof},
		{"twelve shifts", slices.Repeat([]api.Shift{shift(13, 4)}, 12), api.ErrProof},
		{"thirteen shifts", slices.Repeat([]api.Shift{shift(13, 4)}, 13), api.ErrLimit},
		{"thirteen wrong shifts", make([]api.Shift, 13), api.ErrLimit},
	} {
		want(t, x.name, fair.CheckChain(p, g, x.l), x.want)
		next, e := fair.Apply(p, g, x.l)
		want(t, x.name, e, x.want)
		if e == api.OK && !slices.Equal(next, behind(p, g, x.l)) || e != api.OK && len(next) > 0 {
			t.Error(x.name, next)
		}
	}
}

// Without tenants there are no chains, and more than twelve shifts are too many all the same.
func TestCheckChainLimit(t *testing.T) {
	want(t, "none", fair.CheckChain(api.Pool{}, nil, nil), api.ErrProof)
	want(t, "one", fair.CheckChain(api.Pool{}, nil, make([]api.Shift, 1)), api.ErrProof)
	want(t, "twelve", fair.CheckChain(api.Pool{}, nil, make([]api.Shift, 12)), api.ErrProof)
	want(t, "thirteen", fair.CheckChain(api.Pool{}, nil, make([]api.Shift, 13)), api.ErrLimit)
	want(t, "thirteen, and no sharing", fair.CheckChain(api.Pool{}, make([]int, 1), make([]api.Shift, 13)), api.ErrArg)
}

// P6.3: Envy returns the first chain of one shift.
func TestEnvy(t *testing.T) {
	found, none := 0, 0
	small(22, 300, func(r *rand.Rand, p api.Pool) {
		all := sharings(p)
		for range 10 {
			g := all[r.IntN(len(all))]
			var wanted api.Shift
			for _, x := range p.Slots {
				for _, id := range x.Users {
					if s := shift(x.ID, id); wanted == (api.Shift{}) && isChain(p, g, []api.Shift{s}) {
						wanted = s
					}
				}
			}
			got, is, e := fair.Envy(p, g)
			if got != wanted || is != (wanted != api.Shift{}) || e != api.OK {
				t.Fatal(p, g, got, is, e, wanted)
			}
			if is {
				found++
			} else {
				none++
			}
		}
	})
	if found < 300 || none < 300 {
		t.Error("only", found, none)
	}
	p, g := row(3, 1, false)
	if x, is, e := fair.Envy(p, g); is || e != api.OK || x != (api.Shift{}) {
		t.Error(x, is, e)
	}
}

// P6.9: applying chains, whichever, leads to a fairest sharing.
func TestChainsLead(t *testing.T) {
	large(23, 120, func(r *rand.Rand, p api.Pool) {
		ladder, _ := fair.Ladder(p)
		g := anyGiven(r, p)
		for {
			c, is, e := fair.Chain(p, g)
			if e != api.OK {
				t.Fatal(p, g, e)
			}
			if !is {
				break
			}
			next, e := fair.Apply(p, g, c)
			if n, f := fair.Compare(p, next, g); e != api.OK || f != api.OK || n != 1 {
				t.Fatal(p, g, c, next, e, n, f)
			}
			g = next
		}
		if !slices.Equal(ladderOf(p, g), ladder) {
			t.Fatal(p, g, ladder)
		}
	})
	small(24, 100, func(r *rand.Rand, p api.Pool) {
		ladder, _ := fair.Ladder(p)
		all := sharings(p)
		g := all[r.IntN(len(all))]
		for {
			c := chainsOf(p, g)
			if len(c) == 0 {
				break
			}
			g, _ = fair.Apply(p, g, c[r.IntN(len(c))])
		}
		if !slices.Equal(ladderOf(p, g), ladder) {
			t.Fatal(p, g, ladder)
		}
	})
}

// anyGiven returns some sharing of a pool.
func anyGiven(r *rand.Rand, p api.Pool) []int {
	g := make([]int, len(p.Slots))
	for i, x := range p.Slots {
		if len(x.Users) == 0 || r.IntN(4) == 0 {
			continue
		}
		id := x.Users[r.IntN(len(x.Users))]
		if more, _ := room(p, g, id); more > 0 {
			g[i] = id
		}
	}
	return g
}
