package deed

import (
	"slices"

	"drowner/api"
)

// Chain returns the deeds by which a point of a turn came to its owner.
func Chain(l []api.Deed, turn string, point api.Ratio, day, known int) ([]int, api.Errno) {
	if _, e := At(l, turn, point, day, known); e != api.OK {
		return nil, e
	}
	order, e := Order(l, day, known)
	if e != api.OK {
		return nil, e
	}
	var t lot
	var chain []int
	for _, i := range order {
		d := l[i]
		if d.Turn != turn {
			continue
		}
		next := t.after(d)
		if len(next) == 0 {
			continue
		}
		// A deed that takes effect on the turn does so on a piece just if it would if there were no others.
		if len(t.at(point).after(d)) > 0 {
			chain = append(chain, i)
		}
		t = next
	}
	return chain, api.OK
}

// CheckChain returns the owner to whom a chain of deeds leads.
func CheckChain(l []api.Deed, turn string, point api.Ratio, chain []int) (string, api.Errno) {
	if e := Check(l); e != api.OK {
		return "", e
	}
	if !isPoint(point) {
		return "", api.ErrArg
	}
	if len(chain) > api.MaxDeeds {
		return "", api.ErrLimit
	}
	if !isRow(l, turn, chain) {
		return "", api.ErrProof
	}
	// A deed leads on just if it is not void for the piece of the point alone.
	var t lot
	for _, i := range chain {
		t = t.after(l[i]).at(point)
		if len(t) == 0 {
			return "", api.ErrProof
		}
	}
	return t[0].owner, api.OK
}

// isRow reports whether indices are those of deeds of a turn, in the order in which they count, and there are some.
func isRow(l []api.Deed, turn string, chain []int) bool {
	compare := inTime(l)
	for n, i := range chain {
		if i < 0 || i >= len(l) || l[i].Turn != turn || n > 0 && compare(chain[n-1], i) >= 0 {
			return false
		}
	}
	return len(chain) > 0
}

// Rests returns the deeds without each of which a point of a turn has another part.
func Rests(l []api.Deed, turn string, point api.Ratio, day, known int) ([]int, api.Errno) {
	part, e := At(l, turn, point, day, known)
	if e != api.OK {
		return nil, e
	}
	var rests []int
	for i := range l {
		other, e := At(slices.Concat(l[:i], l[i+1:]), turn, point, day, known)
		if e != api.OK || !alike(other, part) {
			rests = append(rests, i)
		}
	}
	return rests, api.OK
}
