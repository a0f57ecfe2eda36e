package fair

import (
	"slices"

	"drowner/api"
)

// nobody stands in the place of a tenant where none has a slot.
const nobody = 0

// plenty is how many slots nobody counts as having: so many more than any tenant who could have more that a shift of one makes the sharing better.
const plenty = api.MaxLabel + 1

// sharing is a sharing of a valid pool, while it changes.
type sharing struct {
	pool    api.Pool
	holders map[int]int // who has a slot, by the IDs of slots
	counts  map[int]int // how many slots a tenant has, by the IDs of tenants
	most    map[int]int // how many a tenant can have
}

// unshared returns the sharing of a pool in which nobody has anything.
func unshared(p api.Pool) *sharing {
	s := &sharing{pool: p, holders: map[int]int{}, counts: map[int]int{}, most: map[int]int{}}
	for _, t := range p.Tenants {
		s.most[t.ID] = t.Most
	}
	return s
}

// sharingOf returns a sharing that a list tells; the error is that of the pool, then ErrArg if the list is no sharing.
func sharingOf(p api.Pool, given []int) (*sharing, api.Errno) {
	if e := Check(p); e != api.OK {
		return nil, e
	}
	if len(given) != len(p.Slots) {
		return nil, api.ErrArg
	}
	s := unshared(p)
	for i, x := range p.Slots {
		id := given[i]
		if id == nobody {
			continue
		}
		if !slices.Contains(x.Users, id) || s.isFull(id) {
			return nil, api.ErrArg
		}
		s.give(x.ID, id)
	}
	return s, api.OK
}

// holder returns who has a slot.
func (s *sharing) holder(slot int) int { return s.holders[slot] }

// give gives a slot to a tenant, in the place of the one who has it.
func (s *sharing) give(slot, to int) {
	s.counts[s.holder(slot)]--
	s.counts[to]++
	s.holders[slot] = to
}

// count returns how many slots a tenant has.
func (s *sharing) count(id int) int {
	if id == nobody {
		return plenty
	}
	return s.counts[id]
}

// isFull reports whether a tenant can have no more slots than it has.
func (s *sharing) isFull(id int) bool { return s.count(id) >= s.most[id] }

// given returns who has the slots, in order.
func (s *sharing) given() []int {
	l := make([]int, 0, len(s.pool.Slots))
	for _, x := range s.pool.Slots {
		l = append(l, s.holder(x.ID))
	}
	return l
}

// each returns what a function tells of the tenants, in order.
func (s *sharing) each(of func(id int) int) []int {
	l := make([]int, 0, len(s.pool.Tenants))
	for _, t := range s.pool.Tenants {
		l = append(l, of(t.ID))
	}
	return l
}

func (s *sharing) ladder() []int { return slices.Sorted(slices.Values(s.each(s.count))) }

// label returns the least count that a tenant has who is not full, and whom shifts reach from a tenant; none at all if there is none.
func (s *sharing) label(id int) int {
	n := api.MaxLabel
	for w := range s.ways(id) {
		if !s.isFull(w.to) {
			n = min(n, s.count(w.to))
		}
	}
	return n
}

// isProved reports whether labels prove that the sharing is a fairest one.
func (s *sharing) isProved(labels []int) bool {
	if len(labels) != len(s.pool.Tenants) {
		return false
	}
	// What goes for slots that nobody has goes for those of a tenant, too, whose label is the greatest.
	at := map[int]int{nobody: api.MaxLabel}
	for i, t := range s.pool.Tenants {
		n := labels[i]
		if n < 0 || n > api.MaxLabel || s.count(t.ID) > n+1 || !s.isFull(t.ID) && n > s.count(t.ID) {
			return false
		}
		at[t.ID] = n
	}
	for _, x := range s.pool.Slots {
		from := at[s.holder(x.ID)]
		if slices.ContainsFunc(x.Users, func(id int) bool { return from > at[id] }) {
			return false
		}
	}
	return true
}
