package fair

import (
	"slices"

	"drowner/api"
)

// Round is a pool that is kept while slots come and go, with a fairest sharing.
type Round struct {
	now   *sharing
	moved int
}

// New returns a round of tenants, without slots.
func New(tenants []api.Tenant) (*Round, api.Errno) {
	p := copied(api.Pool{Tenants: tenants})
	if e := Check(p); e != api.OK {
		return nil, e
	}
	return &Round{now: fairest(p)}, api.OK
}

// Add adds a slot.
func (r *Round) Add(s api.Slot) api.Errno {
	p := r.Pool()
	p.Slots = append(p.Slots, api.Slot{ID: s.ID, Users: slices.Clone(s.Users)})
	if e := Check(p); e != api.OK {
		return e
	}
	r.change(p)
	return api.OK
}

// Drop takes a slot away.
func (r *Round) Drop(slot int) api.Errno {
	if !hasSlot(r.now.pool, slot) {
		return api.ErrNone
	}
	r.change(without(r.now.pool, func(id int) bool { return id == slot }))
	return api.OK
}

// change puts another pool in the place of this one, and counts the slots of both that are given otherwise.
func (r *Round) change(p api.Pool) {
	old, before := r.now.pool, r.now.holder
	r.now = settled(p, before)
	r.moved = 0
	for _, x := range p.Slots {
		if hasSlot(old, x.ID) && before(x.ID) != r.now.holder(x.ID) {
			r.moved++
		}
	}
}

// Pool returns the pool as it stands.
func (r *Round) Pool() api.Pool { return copied(r.now.pool) }

// Given returns a fairest sharing of it.
func (r *Round) Given() []int { return r.now.given() }

// Moved returns how many slots were given to another tenant by the last change.
func (r *Round) Moved() int { return r.moved }

// Mended returns a fairest sharing without a slot, with few changes.
func Mended(p api.Pool, given []int, slot int) ([]int, api.Errno) {
	s, e := sharingOf(p, given)
	if e != api.OK {
		return nil, e
	}
	if !hasSlot(p, slot) {
		return nil, api.ErrNone
	}
	if !s.isFairest() {
		return nil, api.ErrState
	}
	return settled(without(p, func(id int) bool { return id == slot }), s.holder).given(), api.OK
}
