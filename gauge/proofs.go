package gauge

import (
	"slices"

	"drowner/api"
)

// Reach returns the stands behind each item.
func Reach(w api.Well) ([][]api.Stand, api.Errno) {
	if e := Check(w); e != api.OK {
		return nil, e
	}
	return standsOf(w, walkOf(w, false).reached()), api.OK
}

// standsOf returns the layers behind the items of a well as lists of stands.
func standsOf(w api.Well, list []layer) [][]api.Stand {
	var all [][]api.Stand
	for _, l := range list[1:] {
		var stands []api.Stand
		for _, s := range l.sorted() {
			stands = append(stands, api.Stand{Runs: slices.Clone(s.runs[:len(w.Gauges)]), Levels: l[s].spans()})
		}
		all = append(all, stands)
	}
	return all
}

// Contradiction returns a proof that there is no tale.
func Contradiction(w api.Well) ([][]api.Stand, bool, api.Errno) {
	if e := Check(w); e != api.OK {
		return nil, false, e
	}
	k := walkOf(w, false)
	list := k.reached()
	if len(list[len(k.items)]) > 0 {
		return nil, false, api.OK
	}
	return standsOf(w, list), true, api.OK
}

// CheckContradiction returns OK if stands prove that there is no tale.
func CheckContradiction(w api.Well, p [][]api.Stand) api.Errno {
	if e := Check(w); e != api.OK {
		return e
	}
	tooMany := func(l []api.Stand) bool { return len(l) > api.MaxStands }
	if len(p) > api.MaxLooks+api.MaxPegs || slices.ContainsFunc(p, tooMany) {
		return api.ErrLimit
	}
	if !isProof(walkOf(w, false), p) {
		return api.ErrProof
	}
	return api.OK
}

// isProof reports whether the stands of each list hold all that comes of those before it, and nothing is left in the end (without items, the beginning is).
func isProof(k walk, p [][]api.Stand) bool {
	if len(p) != len(k.items) {
		return false
	}
	s, l := k.beginning()
	here := layer{s: l}
	for i, x := range k.items {
		held, ok := layerOf(k.well, p[i])
		if !ok || !holds(held, k.comes(here, x)) {
			return false
		}
		here = held
	}
	return here.all().isEmpty()
}

// holds reports whether all levels of a layer are also in another one, in the same states.
func holds(held, l layer) bool {
	for s, x := range l {
		if !x.isIn(held[s]) {
			return false
		}
	}
	return true
}

// layerOf reads stands, and reports whether each is one, with other Runs than the others.
func layerOf(w api.Well, stands []api.Stand) (layer, bool) {
	l := layer{}
	for _, x := range stands {
		if len(x.Runs) != len(w.Gauges) || !areLevels(x.Levels, w.Top) {
			return nil, false
		}
		s := stateOf(x.Runs)
		if _, twice := l[s]; twice {
			return nil, false
		}
		l[s] = levelsOf(x.Levels)
	}
	return l, true
}

// areLevels reports whether spans lie within 0 to a top level, in order, with a gap between each two.
func areLevels(l []api.Span, top int) bool {
	for i, x := range l {
		if !isWithin(x, top) || i > 0 && x.Lo < l[i-1].Hi+2 {
			return false
		}
	}
	return true
}
