package fair_test

import (
	"math/rand/v2"
	"slices"
	"testing"

	"drowner/api"
	"drowner/fair"
)

// withoutSlots returns a pool without slots, as the chapter says.
func withoutSlots(p api.Pool, l []int) api.Pool {
	q := pool(p.Tenants)
	for _, x := range p.Slots {
		if !slices.Contains(l, x.ID) {
			q.Slots = append(q.Slots, x)
		}
	}
	return q
}

// P6.6: Without.
func TestWithout(t *testing.T) {
	small(40, 200, func(r *rand.Rand, p api.Pool) {
		l := []int{0, -1, 99, 99}
		for _, x := range p.Slots {
			if r.IntN(2) == 0 {
				l = append(l, x.ID, x.ID)
			}
		}
		r.Shuffle(len(l), func(i, j int) { l[i], l[j] = l[j], l[i] })
		if q, e := fair.Without(p, l); !samePool(q, withoutSlots(p, l)) || e != api.OK {
			t.Fatal(p, l, q, e)
		}
		if q, e := fair.Without(p, nil); !samePool(q, p) || e != api.OK {
			t.Fatal(p, q, e)
		}
	})
}

// P6.6: Absent.
func TestAbsent(t *testing.T) {
	small(41, 200, func(r *rand.Rand, p api.Pool) {
		for i, x := range p.Tenants {
			q := pool(slices.Delete(slices.Clone(p.Tenants), i, i+1))
			for _, y := range p.Slots {
				users := slices.DeleteFunc(slices.Clone(y.Users), func(id int) bool { return id == x.ID })
				q.Slots = append(q.Slots, slot(y.ID, users...))
			}
			if got, e := fair.Absent(p, x.ID); !samePool(got, q) || e != api.OK || fair.Check(got) != api.OK {
				t.Fatal(p, x, got, e)
			}
		}
	})
	q, e := fair.Absent(example(), 2)
	if !samePool(q, pool([]api.Tenant{tenant(1, 9), tenant(3, 1)}, slot(11, 1), slot(12, 1), slot(13, 1), slot(14, 3), slot(15, 3))) || e != api.OK {
		t.Error(q, e)
	}
}

// P6.5, P6.13: from each fairest sharing, few changes lead to one without a slot; from no other sharing.
func TestMended(t *testing.T) {
	mended, states := 0, 0
	small(42, 150, func(r *rand.Rand, p api.Pool) {
		ladder, all := fairestOf(p)
		for i, x := range p.Slots {
			q := withoutSlots(p, []int{x.ID})
			wanted, _ := fairestOf(q)
			for _, g := range all[:min(len(all), 40)] {
				m, e := fair.Mended(p, g, x.ID)
				if e != api.OK || !isSharing(q, m) || !slices.Equal(ladderOf(q, m), wanted) {
					t.Fatal(p, g, i, m, e)
				}
				if n := changes(p, g, q, m); n > len(p.Tenants) {
					t.Fatal(p, g, i, m, n)
				}
				mended++
			}
			others := sharings(p)
			for range 10 {
				g := others[r.IntN(len(others))]
				if slices.Equal(ladderOf(p, g), ladder) {
					continue
				}
				if m, e := fair.Mended(p, g, x.ID); e != api.ErrState || len(m) > 0 {
					t.Fatal(p, g, i, m, e)
				}
				states++
			}
		}
	})
	if mended < 1000 || states < 1000 {
		t.Error("only", mended, states)
	}
}

// mend returns the sharing without a slot, and fails a test unless it is a fairest one with few changes.
func mend(t *testing.T, p api.Pool, g []int, id int) (api.Pool, []int, int) {
	t.Helper()
	m, e := fair.Mended(p, g, id)
	q := withoutSlots(p, []int{id})
	ladder, _ := fair.Ladder(q)
	if e != api.OK || !isSharing(q, m) || !slices.Equal(ladderOf(q, m), ladder) {
		t.Fatal(p, g, id, m, e)
	}
	n := changes(p, g, q, m)
	if n > len(p.Tenants) {
		t.Fatal(p, g, id, m, n)
	}
	return q, m, n
}

// P6.5: in large pools, slot by slot, until there is none.
func TestMendedLarge(t *testing.T) {
	most := 0
	large(43, 120, func(r *rand.Rand, p api.Pool) {
		f, _ := fair.Fairest(p)
		g := f.Given
		for len(p.Slots) > 0 {
			var n int
			p, g, n = mend(t, p, g, p.Slots[r.IntN(len(p.Slots))].ID)
			most = max(most, n)
		}
	})
	if most < 3 {
		t.Error("only", most)
	}
}

// P6.5: without a slot that the last one of a row has, all others of the row are given otherwise.
func TestMendedRow(t *testing.T) {
	for n := 2; n <= api.MaxTenants; n++ {
		p, _ := row(n, 1, false)
		p.Slots = append(p.Slots, slot(300, n))
		p.Tenants[n-1].Most = 2
		g := []int{}
		for i := 1; i < n; i++ {
			g = append(g, i)
		}
		g = append(g, 1, n)
		if _, m, changed := mend(t, p, g, 300); changed != n-1 || !slices.Equal(countsOf(p, m), slices.Repeat([]int{1}, n)) {
			t.Error(n, m, changed)
		}
		if _, m, changed := mend(t, p, g, 100); changed != 0 || !slices.Equal(m[:n-1], g[:n-1]) {
			t.Error(n, m, changed)
		}
		p, _ = row(n, 0, true)
		p.Slots = append(p.Slots, slot(300, n))
		g = g[:n-1]
		g = append(slices.Clone(g), 0, n)
		if _, m, changed := mend(t, p, g, 300); changed != n || slices.Contains(m, 0) {
			t.Error(n, m, changed)
		}
	}
}

// P6.5: if a tenant who had less gave the slot, the one who has most would have to give one, too, by other slots of the same tenants: too many would be given otherwise.
func TestMendedBySource(t *testing.T) {
	p := pool([]api.Tenant{tenant(1, 9), tenant(2, 2), tenant(3, 2), tenant(4, 2), tenant(5, 9)},
		slot(43, 3, 4), slot(32, 2, 3), slot(21, 1, 2), slot(12, 1, 2), slot(23, 2, 3), slot(34, 3, 4), slot(54, 4, 5),
		slot(101, 1), slot(102, 1), slot(103, 1), slot(501, 5), slot(502, 5), slot(503, 5), slot(504, 5), slot(99, 4))
	if _, m, _ := mend(t, p, []int{4, 3, 2, 1, 2, 3, 5, 1, 1, 1, 5, 5, 5, 5, 4}, 99); m[6] != 4 {
		t.Error(m)
	}
}

func TestMendedExamples(t *testing.T) {
	p, m, n := mend(t, example(), fairly(), 12)
	if n > 3 || !slices.Equal(ladderOf(p, m), []int{1, 1, 2}) {
		t.Error(m, n)
	}
	if m, e := fair.Mended(example(), []int{1, 1, 1, 2, 3}, 12); e != api.ErrState || len(m) > 0 {
		t.Error(m, e)
	}
}

// book is what a round should be.
type book struct {
	r     *fair.Round
	p     api.Pool
	moved int
}

// check fails a test unless a round is as it should be, however often it is asked.
func (b *book) check(t *testing.T) []int {
	t.Helper()
	ladder, e := fair.Ladder(b.p)
	g := b.r.Given()
	if e != api.OK || !samePool(b.r.Pool(), b.p) || !isSharing(b.p, g) || !slices.Equal(ladderOf(b.p, g), ladder) {
		t.Fatal(b.p, b.r.Pool(), g, e)
	}
	if !samePool(b.r.Pool(), b.p) || !slices.Equal(b.r.Given(), g) || b.r.Moved() != b.moved || b.moved > len(b.p.Tenants) {
		t.Fatal(b.p, g, b.r.Given(), b.r.Moved(), b.moved)
	}
	return g
}

// change makes a change, which leads to a pool or to an error.
func (b *book) change(t *testing.T, q api.Pool, wanted api.Errno, do func() api.Errno) {
	t.Helper()
	before := b.check(t)
	if e := do(); e != wanted {
		t.Fatal(b.p, q, e, wanted)
	}
	if wanted == api.OK {
		b.moved = changes(b.p, before, q, b.r.Given())
		b.p = q
	}
	if behind := b.check(t); wanted != api.OK && !slices.Equal(behind, before) {
		t.Fatal(b.p, before, behind)
	}
}

func (b *book) add(t *testing.T, x api.Slot) {
	t.Helper()
	q := copied(b.p)
	q.Slots = append(q.Slots, x)
	b.change(t, q, fair.Check(q), func() api.Errno { return b.r.Add(x) })
}

func (b *book) drop(t *testing.T, id int) {
	t.Helper()
	wanted := api.ErrNone
	if place(b.p, id) >= 0 {
		wanted = api.OK
	}
	b.change(t, withoutSlots(b.p, []int{id}), wanted, func() api.Errno { return b.r.Drop(id) })
}

func newBook(t *testing.T, tenants []api.Tenant) *book {
	t.Helper()
	r, e := fair.New(tenants)
	if e != api.OK || r == nil {
		t.Fatal(tenants, e)
	}
	b := &book{r: r, p: pool(tenants)}
	b.check(t)
	return b
}

// P6.7, P6.13: rounds, whatever comes and goes.
func TestRounds(t *testing.T) {
	r := chance(44)
	most := 0
	for range 60 {
		p := anyPool(r, r.IntN(api.MaxTenants+1), 0, 1+r.IntN(8), 5)
		b := newBook(t, p.Tenants)
		often := 1 + r.IntN(6)
		for range 90 {
			switch r.IntN(9) {
			case 0, 1, 2, 3, 4:
				b.add(t, slot(1+r.IntN(70), anyUsers(r, p.Tenants, often)...))
			case 5:
				b.add(t, slot(r.IntN(9), 5, r.IntN(12)))
			default:
				if len(b.p.Slots) > 0 {
					b.drop(t, b.p.Slots[r.IntN(len(b.p.Slots))].ID)
				}
				b.drop(t, r.IntN(80)-5)
			}
			most = max(most, b.moved)
		}
	}
	if most < 3 {
		t.Error("only", most)
	}
}

// A round is full at 40 slots, and its errors change nothing.
func TestFullRound(t *testing.T) {
	b := newBook(t, []api.Tenant{tenant(1, 40), tenant(2, 3), tenant(5, 40)})
	for i := range 41 {
		b.add(t, slot(i+1, 1, 2, 5))
	}
	if len(b.p.Slots) != 40 {
		t.Error(len(b.p.Slots))
	}
	want(t, "a wrong slot, and one too many", b.r.Add(slot(0, 9)), api.ErrLimit)
	want(t, "a slot twice, and one too many", b.r.Add(slot(1)), api.ErrLimit)
	b.drop(t, 7)
	want(t, "no ID", b.r.Add(slot(0)), api.ErrArg)
	want(t, "no tenant", b.r.Add(slot(7, 9)), api.ErrArg)
	want(t, "users in no order", b.r.Add(slot(7, 2, 1)), api.ErrArg)
	want(t, "a slot twice", b.r.Add(slot(8)), api.ErrTwice)
	want(t, "a slot that went", b.r.Drop(7), api.ErrNone)
	b.check(t)
	b.add(t, slot(7))
	for i := range 40 {
		b.drop(t, i+1)
	}
	if l := b.r.Given(); len(l) > 0 || b.r.Moved() != 0 {
		t.Error(l, b.r.Moved())
	}
}

// A whole row moves if its first tenant gets another slot, and its last one can take one more; then it stays.
func TestMovedRow(t *testing.T) {
	for n := 2; n <= api.MaxTenants; n++ {
		tenants := many(n, 1)
		tenants[n-1].Most = 2
		b := newBook(t, tenants)
		b.add(t, slot(300, n))
		for i := n - 1; i > 0; i-- {
			b.add(t, slot(i, i, i+1))
		}
		b.add(t, slot(200, 1))
		if b.r.Moved() != n-1 || b.moved != n-1 {
			t.Error(n, b.r.Moved())
		}
		b.drop(t, 300)
		if b.r.Moved() != 0 {
			t.Error(n, b.r.Moved())
		}
		b.drop(t, 200)
	}
}

// P6.7: if a new slot went by the nearest way to a tenant who has more, it would have to go on from there, by other slots of the same tenants: too many would be given otherwise.
func TestMovedToTheLeast(t *testing.T) {
	b := newBook(t, []api.Tenant{tenant(1, 2), tenant(2, 2), tenant(3, 2), tenant(4, 9), tenant(5, 1), tenant(6, 1), tenant(7, 1), tenant(8, 9)})
	// Tenants who have enough for the time being do not take what others are to have.
	for _, x := range []api.Slot{slot(401, 4), slot(301, 3), slot(302, 3), slot(43, 3, 4), slot(201, 2), slot(202, 2)} {
		b.add(t, x)
	}
	b.drop(t, 301)
	b.add(t, slot(32, 2, 3))
	b.drop(t, 302)
	b.add(t, slot(34, 3, 4))
	b.add(t, slot(101, 1))
	b.add(t, slot(102, 1))
	b.drop(t, 201)
	b.add(t, slot(21, 1, 2))
	b.drop(t, 202)
	b.add(t, slot(23, 2, 3))
	for i := 5; i < 8; i++ {
		b.add(t, slot(100*i, i+1))
		b.add(t, slot(11*i+1, i, i+1))
		if i < 7 {
			b.drop(t, 100*i)
		}
	}
	b.drop(t, 101)
	b.add(t, slot(15, 1, 5))
	b.drop(t, 102)
	b.add(t, slot(12, 1, 2))
	if l := b.r.Given(); !slices.Equal(l, []int{4, 4, 3, 3, 2, 2, 5, 6, 8, 7, 1, 1}) {
		t.Fatal(b.r.Pool(), l)
	}
	b.add(t, slot(99, 1)) // which fails if more than eight slots move
}

// Moved tells of the last change that was made; what comes or goes is not counted.
func TestMoved(t *testing.T) {
	b := newBook(t, many(2, 9))
	if b.r.Moved() != 0 {
		t.Error(b.r.Moved())
	}
	b.add(t, slot(3, 1, 2))
	id := b.r.Given()[0]
	b.add(t, slot(4, id)) // the other one gets the slot that both can use
	if b.r.Moved() != 1 || !slices.Equal(b.r.Given(), []int{3 - id, id}) {
		t.Error(b.r.Moved(), b.r.Given())
	}
	want(t, "Add", b.r.Add(slot(4)), api.ErrTwice)
	want(t, "Drop", b.r.Drop(5), api.ErrNone)
	if b.r.Moved() != 1 {
		t.Error(b.r.Moved())
	}
	b.drop(t, 4)
	id = b.r.Given()[0]
	b.add(t, slot(5, id))
	if b.r.Moved() != 1 {
		t.Error(b.r.Moved())
	}
	b.add(t, slot(6))
	if b.r.Moved() != 0 || !slices.Equal(b.r.Given(), []int{3 - id, id, 0}) {
		t.Error(b.r.Moved(), b.r.Given())
	}
}

// P6.7: New.
func TestNew(t *testing.T) {
	for _, x := range badPools() {
		wanted := fair.Check(pool(x.p.Tenants))
		r, e := fair.New(x.p.Tenants)
		if e != wanted || (r == nil) != (e != api.OK) {
			t.Error(x.name, r, e, wanted)
		}
	}
	for _, l := range [][]api.Tenant{nil, many(12, 40), many(1, 0), example().Tenants} {
		r, e := fair.New(l)
		if e != api.OK || !samePool(r.Pool(), pool(l)) || len(r.Given()) > 0 || r.Moved() != 0 {
			t.Error(l, e)
		}
	}
}

// Rounds know nothing of each other.
func TestTwoRounds(t *testing.T) {
	a, b := newBook(t, many(2, 9)), newBook(t, many(2, 9))
	a.add(t, slot(1, 1))
	b.add(t, slot(1, 2))
	b.add(t, slot(2, 2))
	a.drop(t, 1)
	if len(a.check(t)) != 0 || !slices.Equal(b.check(t), []int{2, 2}) {
		t.Error(a.r.Given(), b.r.Given())
	}
}
