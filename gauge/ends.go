package gauge

import (
	"slices"

	"drowner/api"
)

// Asked returns a well in which a level is known otherwise, too.
func Asked(w api.Well, minute int, s api.Span) (api.Well, api.Errno) {
	if e := checkMinute(w, minute); e != api.OK {
		return api.Well{}, e
	}
	if !isWithin(s, api.MaxLevel) {
		return api.Well{}, api.ErrArg
	}
	greatest, _ := bounds(slices.Values(idsOf(w)), same)
	if len(w.Pegs) >= api.MaxPegs || greatest.Hi >= api.MaxID {
		return api.Well{}, api.ErrLimit
	}
	a := copyOf(w)
	a.Pegs = append(a.Pegs, api.Peg{ID: greatest.Hi + 1, Minute: minute, Span: s})
	return a, api.OK
}

// endsOf returns the ends at the last peg of a well, and whether there is a tale.
func endsOf(asked api.Well) (api.Span, bool) {
	k := walkOf(asked, false)
	list, ok := k.passed()
	if !ok {
		return api.Span{}, false
	}
	id := asked.Pegs[len(asked.Pegs)-1].ID
	at := slices.IndexFunc(k.items, func(x item) bool { return x.id == id })
	return bounds(list[at+1].all().each(), same)
}

// Of returns between which ends the level lies at a minute.
func Of(w api.Well, minute int) (api.Range, api.Errno) {
	asked, e := Asked(w, minute, span(0, w.Top))
	if e != api.OK {
		return api.Range{}, e
	}
	x, ok := endsOf(asked)
	if !ok {
		return api.Range{}, api.ErrClash
	}
	r := api.Range{Span: x}
	r.Low, _ = Find(narrowed(asked, x.Lo, x.Lo))
	r.High, _ = Find(narrowed(asked, x.Hi, x.Hi))
	if x.Lo > 0 {
		r.Below, _, _ = Contradiction(narrowed(asked, 0, x.Lo-1))
	}
	if x.Hi < w.Top {
		r.Above, _, _ = Contradiction(narrowed(asked, x.Hi+1, w.Top))
	}
	return r, api.OK
}

// narrowed returns a well with another span at its last peg.
func narrowed(asked api.Well, lo, hi int) api.Well {
	a := copyOf(asked)
	a.Pegs[len(a.Pegs)-1].Span = span(lo, hi)
	return a
}

// CheckRange returns OK if ends of the level at a minute are proved.
func CheckRange(w api.Well, minute int, r api.Range) api.Errno {
	asked, e := Asked(w, minute, span(0, w.Top))
	if e != api.OK {
		return e
	}
	x := r.Span
	if !isWithin(x, w.Top) {
		return api.ErrProof
	}
	if CheckTale(narrowed(asked, x.Lo, x.Lo), r.Low) != api.OK || CheckTale(narrowed(asked, x.Hi, x.Hi), r.High) != api.OK {
		return api.ErrProof
	}
	if !isNever(asked, 0, x.Lo-1, r.Below) || !isNever(asked, x.Hi+1, w.Top, r.Above) {
		return api.ErrProof
	}
	return api.OK
}

// isNever reports whether stands prove that the last peg has no level from lo to hi, or are none, if there is no such level.
func isNever(asked api.Well, lo, hi int, p [][]api.Stand) bool {
	if lo > hi {
		return len(p) == 0
	}
	return CheckContradiction(narrowed(asked, lo, hi), p) == api.OK
}
