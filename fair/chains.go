package fair

import (
	"cmp"
	"slices"

	"drowner/api"
)

// Chain returns shifts that make a sharing better.
func Chain(p api.Pool, given []int) ([]api.Shift, bool, api.Errno) {
	s, e := sharingOf(p, given)
	if e != api.OK {
		return nil, false, e
	}
	w, found := least(s.chains(s.sources()), func(a, b way) int { return cmp.Compare(len(a.shifts), len(b.shifts)) })
	return w.shifts, found, api.OK
}

// CheckChain returns OK if shifts make a sharing better.
func CheckChain(p api.Pool, given []int, chain []api.Shift) api.Errno {
	_, e := Apply(p, given, chain)
	return e
}

// Apply returns a sharing behind a chain.
func Apply(p api.Pool, given []int, chain []api.Shift) ([]int, api.Errno) {
	s, e := sharingOf(p, given)
	if e != api.OK {
		return nil, e
	}
	if len(chain) > api.MaxTenants {
		return nil, api.ErrLimit
	}
	if !s.isChain(chain) {
		return nil, api.ErrProof
	}
	s.shift(chain)
	return s.given(), api.OK
}

// isChain reports whether shifts are a chain. Their slots differ, as each one is had by another tenant, or by nobody.
func (s *sharing) isChain(l []api.Shift) bool {
	if len(l) == 0 {
		return false
	}
	from := s.holder(l[0].Slot)
	seen := map[int]bool{from: true}
	at := from
	for _, x := range l {
		if seen[x.To] || !s.isShift(at, x) {
			return false
		}
		seen[x.To] = true
		at = x.To
	}
	return !s.isFull(at) && s.count(from)-s.count(at) >= 2
}

// isShift reports whether something is a shift of a slot that a tenant has, or nobody.
func (s *sharing) isShift(from int, x api.Shift) bool {
	for y := range s.shifts(from) {
		if y == x {
			return true
		}
	}
	return false
}

// Envy returns a single shift that makes a sharing better.
func Envy(p api.Pool, given []int) (api.Shift, bool, api.Errno) {
	s, e := sharingOf(p, given)
	if e != api.OK {
		return api.Shift{}, false, e
	}
	x := s.envy()
	return x, x != api.Shift{}, api.OK
}

// envy returns the first chain of one shift, a zero one if there is none.
func (s *sharing) envy() api.Shift {
	for _, x := range s.pool.Slots {
		i := slices.IndexFunc(x.Users, func(id int) bool { return s.isChain([]api.Shift{{Slot: x.ID, To: id}}) })
		if i >= 0 {
			return api.Shift{Slot: x.ID, To: x.Users[i]}
		}
	}
	return api.Shift{}
}
