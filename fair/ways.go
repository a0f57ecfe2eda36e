package fair

import (
	"cmp"
	"iter"
	"slices"

	"drowner/api"
)

// way is shifts that lead from a tenant, or from nobody, to a tenant: none if it leads nowhere else.
type way struct {
	from, to int
	shifts   []api.Shift
}

// then returns a way with a shift behind it, in memory of its own.
func (w way) then(x api.Shift) way {
	return way{from: w.from, to: x.To, shifts: append(slices.Clip(w.shifts), x)}
}

// shifts yields all shifts of slots that a tenant has, or nobody, in the order of the slots and then of those who get them.
func (s *sharing) shifts(from int) iter.Seq[api.Shift] {
	return func(yield func(api.Shift) bool) {
		for _, x := range s.pool.Slots {
			if s.holder(x.ID) != from {
				continue
			}
			for _, id := range x.Users {
				if id != from && !yield(api.Shift{Slot: x.ID, To: id}) {
					return
				}
			}
		}
	}
}

// ways yields a way with as few shifts as possible to each one who can be reached from a tenant, or from nobody, the nearest ones first. No tenant is on it twice, so that its shifts are of different slots.
func (s *sharing) ways(from int) iter.Seq[way] {
	return func(yield func(way) bool) {
		seen := map[int]bool{from: true}
		queue := []way{{from: from, to: from}}
		for len(queue) > 0 {
			w := queue[0]
			queue = queue[1:]
			if !yield(w) {
				return
			}
			for x := range s.shifts(w.to) {
				if !seen[x.To] {
					seen[x.To] = true
					queue = append(queue, w.then(x))
				}
			}
		}
	}
}

// sources returns those from whom slots can come: nobody, then the tenants, in order.
func (s *sharing) sources() []int {
	return slices.Concat([]int{nobody}, s.each(func(id int) int { return id }))
}

// leading yields the ways from some sources to tenants who are not full, and who have fewer slots, by as many as a function says.
func (s *sharing) leading(sources []int, is func(fewer int) bool) iter.Seq[way] {
	return func(yield func(way) bool) {
	search:
		for _, from := range sources {
			for w := range s.ways(from) {
				if !s.isFull(w.to) && is(s.count(from)-s.count(w.to)) && !yield(w) {
					break search
				}
			}
		}
	}
}

// chains yields, for each of some sources and each tenant, a shortest chain between them, if there is one.
func (s *sharing) chains(sources []int) iter.Seq[way] {
	return s.leading(sources, func(fewer int) bool { return fewer >= 2 })
}

// trades yields ways by which two tenants change their counts only, so that the ladder stays as it is.
func (s *sharing) trades() iter.Seq[way] {
	return s.leading(s.sources(), func(fewer int) bool { return fewer == 1 })
}

// least returns the first one of some things than which none is less, and whether there are any.
func least[T any](l iter.Seq[T], compare func(a, b T) int) (T, bool) {
	var best T
	found := false
	for x := range l {
		if !found || compare(x, best) < 0 {
			best, found = x, true
		}
	}
	return best, found
}

// isFairest reports whether a sharing is a fairest one, that is, whether there is no chain.
func (s *sharing) isFairest() bool {
	for range s.chains(s.sources()) {
		return false
	}
	return true
}

// shift lets shifts take place.
func (s *sharing) shift(l []api.Shift) {
	for _, x := range l {
		s.give(x.Slot, x.To)
	}
}

// improve lets chains from some sources take place until there is none. One to who has the least, from who has the most, leaves nothing that would have to be put right later, so that a single one is enough where one slot came or went.
func (s *sharing) improve(sources []int) {
	better := func(a, b way) int {
		return cmp.Or(cmp.Compare(s.count(a.to), s.count(b.to)), cmp.Compare(s.count(b.from), s.count(a.from)))
	}
	for {
		w, found := least(s.chains(sources), better)
		if !found {
			return
		}
		s.shift(w.shifts)
	}
}

// settle makes a sharing a fairest one. What nobody has is given ahead of all else, as most slots come from there and one source is searched faster than all.
func (s *sharing) settle() {
	s.improve([]int{nobody})
	s.improve(s.sources())
}

// settled returns a fairest sharing of a valid pool that goes out from what a function tells of who has which slot, as far as they can use it.
func settled(p api.Pool, holder func(slot int) int) *sharing {
	s := unshared(p)
	for _, x := range p.Slots {
		if id := holder(x.ID); slices.Contains(x.Users, id) {
			s.give(x.ID, id)
		}
	}
	s.settle()
	return s
}

func fairest(p api.Pool) *sharing {
	return settled(p, func(int) int { return nobody })
}
