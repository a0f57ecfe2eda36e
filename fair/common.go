package fair

import (
	"slices"

	"drowner/api"
)

// Spread returns how many slots a tenant has at least and at most in fairest sharings.
func Spread(p api.Pool, tenant int) (api.Span, api.Errno) {
	if e := Check(p); e != api.OK {
		return api.Span{}, e
	}
	if !hasTenant(p, tenant) {
		return api.Span{}, api.ErrNone
	}
	s := fairest(p)
	n := s.count(tenant)
	x := api.Span{Lo: n, Hi: n}
	// If a tenant has another count in some fairest sharing, then behind a single trade, too.
	for w := range s.trades() {
		if w.from == tenant {
			x.Lo = n - 1
		}
		if w.to == tenant {
			x.Hi = n + 1
		}
	}
	return x, api.OK
}

// Could reports whether a fairest sharing gives a slot to a tenant, or to nobody.
func Could(p api.Pool, slot, tenant int) (bool, api.Errno) {
	if e := Check(p); e != api.OK {
		return false, e
	}
	if !hasSlot(p, slot) || tenant != nobody && !hasTenant(p, tenant) {
		return false, api.ErrNone
	}
	return fairest(p).couldGive(slot, tenant), api.OK
}

// couldGive reports, of a fairest sharing, whether it or another one gives a slot to a tenant, or to nobody.
func (s *sharing) couldGive(slot, tenant int) bool {
	if tenant != nobody && (s.most[tenant] == 0 || !canUse(s.pool, slot, tenant)) {
		return false
	}
	// If nobody had the slot though only this tenant can use it, then because the tenant is full; it could have it in the place of another one.
	return s.isAsFairIn(usedBy(s.pool, func(x, id int) bool { return x != slot || id == tenant }))
}

// isAsFairIn reports, of a fairest sharing, whether its ladder is reached in a pool where less can be used, too.
func (s *sharing) isAsFairIn(p api.Pool) bool {
	return slices.Equal(settled(p, s.holder).ladder(), s.ladder())
}

// Surely returns the slots that all fairest sharings give to the same tenant.
func Surely(p api.Pool) ([]api.Shift, api.Errno) {
	if e := Check(p); e != api.OK {
		return nil, e
	}
	s := fairest(p)
	var sure []api.Shift
	for _, x := range p.Slots {
		if id := s.holder(x.ID); id != nobody && s.isBound(x.ID) {
			sure = append(sure, api.Shift{Slot: x.ID, To: id})
		}
	}
	return sure, api.OK
}

// isBound reports, of a fairest sharing, whether no other one does without giving a slot to the tenant who has it.
func (s *sharing) isBound(slot int) bool {
	tenant := s.holder(slot)
	return !s.isAsFairIn(usedBy(s.pool, func(x, id int) bool { return x != slot || id != tenant }))
}
