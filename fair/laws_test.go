package fair_test

import (
	"math/rand/v2"
	"slices"
	"testing"

	"drowner/api"
	"drowner/fair"
)

// ladder returns the ladder of a pool's fairest sharings.
func ladder(t *testing.T, p api.Pool) []int {
	t.Helper()
	l, e := fair.Ladder(p)
	if e != api.OK {
		t.Fatal(p, e)
	}
	return l
}

// P6.12: with a slot less the ladder is not greater, without a tenant the least count of the others is not less.
func TestMoreAndLess(t *testing.T) {
	less, more := 0, 0
	large(50, 80, func(r *rand.Rand, p api.Pool) {
		all := ladder(t, p)
		for _, x := range p.Slots {
			q, e := fair.Without(p, []int{x.ID})
			c := slices.Compare(ladder(t, q), all)
			if e != api.OK || c > 0 {
				t.Fatal(p, x, q, e)
			}
			if c < 0 {
				less++
			}
		}
		f, _ := fair.Fairest(p)
		counts, _ := fair.Counts(p, f.Given)
		for i, x := range p.Tenants {
			q, e := fair.Absent(p, x.ID)
			others := ladder(t, q)
			if e != api.OK || len(others) != len(all)-1 {
				t.Fatal(p, x, others, e)
			}
			if len(others) == 0 {
				continue
			}
			least := slices.Min(slices.Delete(slices.Clone(counts), i, i+1))
			if others[0] < least || others[0] < all[0] {
				t.Fatal(p, x, others, counts)
			}
			if others[0] > least {
				more++
			}
		}
	})
	if less < 300 || more < 20 {
		t.Error("only", less, more)
	}
}

// mixed returns a pool with its tenants and slots in another order.
func mixed(r *rand.Rand, p api.Pool) api.Pool {
	q := copied(p)
	r.Shuffle(len(q.Tenants), func(i, j int) { q.Tenants[i], q.Tenants[j] = q.Tenants[j], q.Tenants[i] })
	r.Shuffle(len(q.Slots), func(i, j int) { q.Slots[i], q.Slots[j] = q.Slots[j], q.Slots[i] })
	return q
}

// P6.14: the order of tenants and slots does not matter for what all fairest sharings have in common.
func TestAnyOrder(t *testing.T) {
	large(51, 25, func(r *rand.Rand, p api.Pool) {
		q := mixed(r, p)
		if !slices.Equal(ladder(t, p), ladder(t, q)) {
			t.Fatal(p, q)
		}
		for _, x := range p.Tenants {
			a, e := fair.Spread(p, x.ID)
			b, f := fair.Spread(q, x.ID)
			if a != b || e != api.OK || f != api.OK {
				t.Fatal(p, q, x, a, b, e, f)
			}
		}
		for _, x := range p.Slots {
			for _, id := range append([]int{0}, ids(p)...) {
				a, e := fair.Could(p, x.ID, id)
				b, f := fair.Could(q, x.ID, id)
				if a != b || e != api.OK || f != api.OK {
					t.Fatal(p, q, x, id, a, b, e, f)
				}
			}
		}
		l, _ := fair.Surely(p)
		for _, x := range l {
			m, _ := fair.Surely(q)
			if len(m) != len(l) || !slices.Contains(m, x) {
				t.Fatal(p, q, l, m)
			}
		}
	})
}

// The IDs count for nothing but who is who.
func TestGreatIDs(t *testing.T) {
	large(52, 40, func(r *rand.Rand, p api.Pool) {
		q := copied(p)
		great := func(id int) int { return api.MaxID - 1000 + id }
		for i := range q.Tenants {
			q.Tenants[i].ID = great(q.Tenants[i].ID)
		}
		for i, x := range q.Slots {
			q.Slots[i].ID = great(x.ID)
			for j := range x.Users {
				x.Users[j] = great(x.Users[j])
			}
		}
		f, e := fair.Fairest(q)
		if e != api.OK || !proves(q, f.Given, f.Labels) || !slices.Equal(ladder(t, p), ladder(t, q)) {
			t.Fatal(q, f, e)
		}
	})
}

// What is asked twice is told in the same way (R7).
func TestSameAgain(t *testing.T) {
	large(53, 40, func(r *rand.Rand, p api.Pool) {
		g := anyGiven(r, p)
		f, _ := fair.Fairest(p)
		c, _, _ := fair.Chain(p, g)
		for range 5 {
			again, _ := fair.Fairest(copied(p))
			d, _, _ := fair.Chain(copied(p), slices.Clone(g))
			if !slices.Equal(f.Given, again.Given) || !slices.Equal(f.Labels, again.Labels) || !slices.Equal(c, d) {
				t.Fatal(p, f, again, c, d)
			}
		}
	})
}
