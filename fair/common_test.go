package fair_test

import (
	"math/rand/v2"
	"slices"
	"testing"

	"drowner/api"
	"drowner/fair"
)

// spreadOf returns the least and the greatest count of a tenant in some sharings.
func spreadOf(p api.Pool, l [][]int, tenant int) api.Span {
	x := span(countsOf(p, l[0])[tenant], 0)
	for _, g := range l {
		n := countsOf(p, g)[tenant]
		x.Lo, x.Hi = min(x.Lo, n), max(x.Hi, n)
	}
	return x
}

// P6.4, P6.10: the least and the greatest count in all fairest sharings.
func TestSpread(t *testing.T) {
	wide, full := 0, 0
	small(30, 400, func(r *rand.Rand, p api.Pool) {
		_, all := fairestOf(p)
		for i, x := range p.Tenants {
			wanted := spreadOf(p, all, i)
			got, e := fair.Spread(p, x.ID)
			if got != wanted || e != api.OK || got.Hi-got.Lo > 1 {
				t.Fatal(p, x, got, wanted, e)
			}
			if got.Lo < got.Hi {
				wide++
			}
			if got.Hi == x.Most {
				full++
			}
		}
	})
	if wide < 100 || full < 100 {
		t.Error("only", wide, full)
	}
}

// has reports whether one of some sharings gives a slot to a tenant.
func has(l [][]int, slot, tenant int) bool {
	return slices.ContainsFunc(l, func(g []int) bool { return g[slot] == tenant })
}

// P6.4, P6.11: who has a slot in some fairest sharing.
func TestCould(t *testing.T) {
	seen := map[bool]int{}
	nobody := 0
	small(31, 400, func(r *rand.Rand, p api.Pool) {
		_, all := fairestOf(p)
		for i, x := range p.Slots {
			for _, id := range append([]int{0}, ids(p)...) {
				wanted := has(all, i, id)
				got, e := fair.Could(p, x.ID, id)
				if got != wanted || e != api.OK {
					t.Fatal(p, x, id, got, wanted, e)
				}
				seen[got]++
				if got && id == 0 && len(x.Users) > 0 {
					nobody++
				}
			}
		}
	})
	if seen[true] < 500 || seen[false] < 500 || nobody < 100 {
		t.Error("only", seen, nobody)
	}
}

// ids returns the IDs of a pool's tenants.
func ids(p api.Pool) []int {
	var l []int
	for _, t := range p.Tenants {
		l = append(l, t.ID)
	}
	return l
}

// P6.4, P6.11: what is the same in all fairest sharings.
func TestSurely(t *testing.T) {
	sure, open := 0, 0
	small(32, 400, func(r *rand.Rand, p api.Pool) {
		_, all := fairestOf(p)
		var wanted []api.Shift
		for i, x := range p.Slots {
			id := all[0][i]
			if id != 0 && !slices.ContainsFunc(all, func(g []int) bool { return g[i] != id }) {
				wanted = append(wanted, shift(x.ID, id))
			}
		}
		got, e := fair.Surely(p)
		if !slices.Equal(got, wanted) || e != api.OK {
			t.Fatal(p, got, wanted, e)
		}
		sure += len(got)
		open += len(p.Slots) - len(got)
	})
	if sure < 300 || open < 300 {
		t.Error("only", sure, open)
	}
}

func TestCommonExamples(t *testing.T) {
	p := example()
	for id, wanted := range map[int]api.Span{1: span(2, 2), 2: span(2, 2), 3: span(1, 1)} {
		if got, e := fair.Spread(p, id); got != wanted || e != api.OK {
			t.Error(id, got, e)
		}
	}
	l, e := fair.Surely(p)
	if !slices.Equal(l, []api.Shift{shift(12, 1), shift(14, 2), shift(15, 3)}) || e != api.OK {
		t.Error(l, e)
	}
	for _, x := range []struct {
		slot, tenant int
		want         bool
	}{{15, 0, false}, {14, 3, false}, {11, 1, true}, {11, 2, true}, {13, 1, true}, {13, 2, true}, {12, 2, false}, {12, 0, false}, {15, 3, true}} {
		if is, e := fair.Could(p, x.slot, x.tenant); is != x.want || e != api.OK {
			t.Error(x, is, e)
		}
	}
}

// Who can have nothing gets nothing, and who is full could have each of the slots that nobody else can use.
func TestCommonEdges(t *testing.T) {
	p := pool([]api.Tenant{tenant(1, 0), tenant(2, 1)}, slot(1, 1), slot(2, 2), slot(3, 1, 2), slot(4))
	if x, e := fair.Spread(p, 1); x != span(0, 0) || e != api.OK {
		t.Error(x, e)
	}
	if x, e := fair.Spread(p, 2); x != span(1, 1) || e != api.OK {
		t.Error(x, e)
	}
	for _, x := range []struct {
		slot, tenant int
		want         bool
	}{{1, 1, false}, {1, 2, false}, {1, 0, true}, {2, 2, true}, {2, 0, true}, {3, 1, false}, {3, 2, true}, {3, 0, true}, {4, 1, false}, {4, 2, false}, {4, 0, true}} {
		if is, e := fair.Could(p, x.slot, x.tenant); is != x.want || e != api.OK {
			t.Error(x, is, e)
		}
	}
	if l, e := fair.Surely(p); len(l) > 0 || e != api.OK {
		t.Error(l, e)
	}
	if l, e := fair.Surely(api.Pool{}); len(l) > 0 || e != api.OK {
		t.Error(l, e)
	}
}

// P6.10, P6.11: what is told of large pools is so in fairest sharings to which chains lead from anywhere, and from there on by trades.
func TestCommonLarge(t *testing.T) {
	large(33, 40, func(r *rand.Rand, p api.Pool) {
		spreads := map[int]api.Span{}
		for _, x := range p.Tenants {
			spreads[x.ID], _ = fair.Spread(p, x.ID)
			if n := spreads[x.ID].Hi - spreads[x.ID].Lo; n < 0 || n > 1 {
				t.Fatal(p, x, spreads)
			}
		}
		sure := map[int]int{}
		l, _ := fair.Surely(p)
		for _, x := range l {
			sure[x.Slot] = x.To
			for _, id := range append([]int{0}, ids(p)...) {
				if is, _ := fair.Could(p, x.Slot, id); is != (id == x.To) {
					t.Fatal(p, x, id, is)
				}
			}
		}
		for range 5 {
			g := anyGiven(r, p)
			for {
				c, is, _ := fair.Chain(p, g)
				if !is {
					break
				}
				g = behind(p, g, c)
			}
			for i, n := range countsOf(p, g) {
				if x := spreads[p.Tenants[i].ID]; n < x.Lo || n > x.Hi {
					t.Fatal(p, g, i, n, x)
				}
			}
			for i, x := range p.Slots {
				if is, e := fair.Could(p, x.ID, g[i]); !is || e != api.OK {
					t.Fatal(p, g, x, is, e)
				}
				if id := sure[x.ID]; id != 0 && id != g[i] {
					t.Fatal(p, g, x, id)
				}
			}
		}
	})
}

// P6.10: both ends occur in large pools, too: one more or one less than a tenant can have leaves the ladder as it is.
func TestSpreadOccurs(t *testing.T) {
	wide := 0
	large(34, 60, func(r *rand.Rand, p api.Pool) {
		ladder, _ := fair.Ladder(p)
		for i, x := range p.Tenants {
			s, _ := fair.Spread(p, x.ID)
			fewer := copied(p)
			fewer.Tenants[i].Most = s.Lo
			if l, e := fair.Ladder(fewer); !slices.Equal(l, ladder) || e != api.OK {
				t.Fatal(p, x, s, l, ladder)
			}
			if s.Lo > 0 {
				fewer.Tenants[i].Most--
				if l, e := fair.Ladder(fewer); slices.Equal(l, ladder) || e != api.OK {
					t.Fatal(p, x, s, l, ladder)
				}
			}
			if s.Hi > s.Lo {
				wide++
			}
		}
	})
	if wide < 100 {
		t.Error("only", wide)
	}
}
