package fair_test

import (
	"math/rand/v2"
	"slices"
	"testing"

	"drowner/api"
)

// The tests compare the package with what the chapter's definitions say, looked up in all sharings of small pools, and in all lists of shifts that link up.

func pool(tenants []api.Tenant, slots ...api.Slot) api.Pool {
	return api.Pool{Tenants: tenants, Slots: slots}
}

func tenant(id, most int) api.Tenant { return api.Tenant{ID: id, Most: most} }

func slot(id int, users ...int) api.Slot { return api.Slot{ID: id, Users: users} }

func shift(slot, to int) api.Shift { return api.Shift{Slot: slot, To: to} }

func span(lo, hi int) api.Span { return api.Span{Lo: lo, Hi: hi} }

// example is the pool of the chapter's examples, and fairly a fairest sharing of it.
func example() api.Pool {
	return pool([]api.Tenant{tenant(1, 9), tenant(2, 9), tenant(3, 1)}, slot(11, 1, 2), slot(12, 1), slot(13, 1, 2), slot(14, 2, 3), slot(15, 3))
}

func fairly() []int { return []int{2, 1, 1, 2, 3} }

// chance returns numbers that are the same in each run.
func chance(seed uint64) *rand.Rand { return rand.New(rand.NewPCG(seed, 6)) }

// anyUsers returns some of a pool's tenants, each one in so many of ten cases.
func anyUsers(r *rand.Rand, l []api.Tenant, often int) []int {
	var users []int
	for _, t := range l {
		if r.IntN(10) < often {
			users = append(users, t.ID)
		}
	}
	slices.Sort(users)
	return users
}

// anyPool returns a pool whose tenants can have up to so many slots.
func anyPool(r *rand.Rand, tenants, slots, most, often int) api.Pool {
	var p api.Pool
	for _, i := range r.Perm(tenants) {
		p.Tenants = append(p.Tenants, tenant(5+3*i, r.IntN(most+1)))
	}
	for _, i := range r.Perm(slots) {
		p.Slots = append(p.Slots, slot(1+2*i, anyUsers(r, p.Tenants, often)...))
	}
	return p
}

// small does something with pools whose sharings are few.
func small(seed uint64, times int, do func(r *rand.Rand, p api.Pool)) {
	r := chance(seed)
	for range times {
		tenants, slots := 2+r.IntN(3), 3+r.IntN(3)
		if r.IntN(8) == 0 {
			tenants, slots = r.IntN(3), r.IntN(4)
		}
		do(r, anyPool(r, tenants, slots, 1+r.IntN(4), 3+r.IntN(6)))
	}
}

// large does something with pools of up to as many tenants and slots as there can be. In half of them all tenants can have something.
func large(seed uint64, times int, do func(r *rand.Rand, p api.Pool)) {
	r := chance(seed)
	for i := range times {
		p := anyPool(r, 1+r.IntN(api.MaxTenants), r.IntN(api.MaxSlots+1), 1+r.IntN(12), 1+r.IntN(6))
		for j := range p.Tenants {
			p.Tenants[j].Most += i % 2 * 3
		}
		do(r, p)
	}
}

// countsOf, ladderOf, isSharing and sharings are as the chapter says.
func countsOf(p api.Pool, given []int) []int {
	l := make([]int, len(p.Tenants))
	for i, t := range p.Tenants {
		for _, id := range given {
			if id == t.ID {
				l[i]++
			}
		}
	}
	return l
}

func ladderOf(p api.Pool, given []int) []int {
	l := countsOf(p, given)
	slices.Sort(l)
	return l
}

func isSharing(p api.Pool, given []int) bool {
	if len(given) != len(p.Slots) {
		return false
	}
	for i, x := range p.Slots {
		if given[i] != 0 && !slices.Contains(x.Users, given[i]) {
			return false
		}
	}
	for i, n := range countsOf(p, given) {
		if n > p.Tenants[i].Most {
			return false
		}
	}
	return true
}

func sharings(p api.Pool) [][]int {
	all := [][]int{{}}
	for _, x := range p.Slots {
		var longer [][]int
		for _, l := range all {
			for _, id := range append([]int{0}, x.Users...) {
				longer = append(longer, append(slices.Clone(l), id))
			}
		}
		all = longer
	}
	return slices.DeleteFunc(all, func(l []int) bool { return !isSharing(p, l) })
}

// fairestOf returns the greatest ladder of all sharings, and those that have it.
func fairestOf(p api.Pool) (ladder []int, l [][]int) {
	for _, g := range sharings(p) {
		c := slices.Compare(ladderOf(p, g), ladder)
		if len(l) == 0 || c > 0 {
			ladder, l = ladderOf(p, g), nil
			c = 0
		}
		if c == 0 {
			l = append(l, g)
		}
	}
	return ladder, l
}

// place returns where a slot is in a pool.
func place(p api.Pool, id int) int {
	return slices.IndexFunc(p.Slots, func(x api.Slot) bool { return x.ID == id })
}

// room returns how many more slots a tenant of a sharing can have, and how many it has.
func room(p api.Pool, given []int, id int) (more, has int) {
	i := slices.IndexFunc(p.Tenants, func(t api.Tenant) bool { return t.ID == id })
	has = countsOf(p, given)[i]
	return p.Tenants[i].Most - has, has
}

// linked reports whether a list of shifts is a chain so far, whatever its last one leads to.
func linked(p api.Pool, given []int, l []api.Shift) bool {
	var source int
	for i, x := range l {
		at := place(p, x.Slot)
		if at < 0 || !slices.Contains(p.Slots[at].Users, x.To) || given[at] == x.To {
			return false
		}
		if i == 0 {
			source = given[at]
		} else if given[at] != l[i-1].To {
			return false
		}
		if x.To == source {
			return false
		}
		for _, y := range l[:i] {
			if y.Slot == x.Slot || y.To == x.To {
				return false
			}
		}
	}
	return true
}

func isChain(p api.Pool, given []int, l []api.Shift) bool {
	if len(l) == 0 || !linked(p, given, l) {
		return false
	}
	more, has := room(p, given, l[len(l)-1].To)
	if more < 1 {
		return false
	}
	source := given[place(p, l[0].Slot)]
	if source == 0 {
		return true
	}
	_, n := room(p, given, source)
	return n >= has+2
}

// links returns all lists of shifts that link up, the shorter ones first.
func links(p api.Pool, given []int) [][]api.Shift {
	all := [][]api.Shift{nil}
	for i := 0; i < len(all); i++ {
		for _, x := range p.Slots {
			for _, id := range x.Users {
				if l := append(slices.Clone(all[i]), shift(x.ID, id)); linked(p, given, l) {
					all = append(all, l)
				}
			}
		}
	}
	return all
}

// chainsOf returns all chains for a sharing, the shorter ones first.
func chainsOf(p api.Pool, given []int) [][]api.Shift {
	return slices.DeleteFunc(links(p, given), func(l []api.Shift) bool { return !isChain(p, given, l) })
}

// behind returns a sharing behind shifts.
func behind(p api.Pool, given []int, l []api.Shift) []int {
	g := slices.Clone(given)
	for _, x := range l {
		g[place(p, x.Slot)] = x.To
	}
	return g
}

// proves reports whether labels prove that a sharing is a fairest one, as the chapter says.
func proves(p api.Pool, given, labels []int) bool {
	if !isSharing(p, given) || len(labels) != len(p.Tenants) {
		return false
	}
	of := map[int]int{}
	for i, t := range p.Tenants {
		n := labels[i]
		of[t.ID] = n
		if n < 0 || n > 41 {
			return false
		}
		more, has := room(p, given, t.ID)
		if has > n+1 || more > 0 && n > has {
			return false
		}
	}
	for i, x := range p.Slots {
		for _, id := range x.Users {
			if given[i] != 0 && of[given[i]] > of[id] || given[i] == 0 && of[id] != 41 {
				return false
			}
		}
	}
	return true
}

// changes returns how many slots of two pools are given otherwise in one of them.
func changes(p api.Pool, a []int, q api.Pool, b []int) int {
	n := 0
	for i, x := range p.Slots {
		if j := place(q, x.ID); j >= 0 && a[i] != b[j] {
			n++
		}
	}
	return n
}

// copied returns a pool in memory of its own.
func copied(p api.Pool) api.Pool {
	q := pool(slices.Clone(p.Tenants), slices.Clone(p.Slots)...)
	for i := range q.Slots {
		q.Slots[i].Users = slices.Clone(q.Slots[i].Users)
	}
	return q
}

func samePool(p, q api.Pool) bool {
	return slices.Equal(p.Tenants, q.Tenants) && slices.EqualFunc(p.Slots, q.Slots, func(x, y api.Slot) bool {
		return x.ID == y.ID && slices.Equal(x.Users, y.Users)
	})
}

// want fails a test unless an error is as it should be.
func want(t *testing.T, what string, got, wanted api.Errno) {
	t.Helper()
	if got != wanted {
		t.Errorf("%s: error %d, not %d", what, got, wanted)
	}
}
