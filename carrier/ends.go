package carrier

import (
	"slices"

	"drowner/api"
)

// signs is whether more of something gives an outlet more (1), less (-1), or neither: for each head, for the board and the leak of each outlet, and for its reach.
type signs struct{ heads, hatches, reaches []int }

func signsOf(w api.Works, id int) signs {
	var ends [api.MaxCarriers]int // on the carriers of the path: how many outlets there are up to that of the path
	of := paths(w)[id]
	for p, o := range places(w) {
		if slices.Contains(of, o.ID) {
			ends[p.carrier] = p.nth + 1
		}
	}
	var g signs
	for _, c := range heads(w) {
		g.heads = append(g.heads, min(ends[c], 1))
	}
	for p := range places(w) {
		hatch, reach := 0, 0
		if p.nth < ends[p.carrier] {
			hatch, reach = -1, -1
		}
		if p.nth == ends[p.carrier]-1 {
			hatch = 1
		}
		g.hatches = append(g.hatches, hatch)
		g.reaches = append(g.reaches, reach)
	}
	return g
}

// Signs returns whether more at each head, outlet and reach gives an outlet more, or less.
func Signs(w api.Works, id int) ([]int, []int, []int, api.Errno) {
	if e := checkOutlet(w, id); e != api.OK {
		return nil, nil, nil, e
	}
	g := signsOf(w, id)
	return g.heads, g.hatches, g.reaches, api.OK
}

// CheckCase returns the first error of what is known.
func CheckCase(w api.Works, c api.Case) api.Errno {
	if e := Check(w); e != api.OK {
		return e
	}
	if len(c.River) != len(heads(w)) || len(c.Boards) != count(w) {
		return api.ErrArg
	}
	for _, x := range c.River {
		if !isWithin(x, flows()) {
			return api.ErrArg
		}
	}
	for p, o := range places(w) {
		if !isWithin(c.Boards[p.at], boards(o)) {
			return api.ErrArg
		}
	}
	return api.OK
}

// checkCaseOf returns the error of works and a case, then that of an outlet.
func checkCaseOf(w api.Works, c api.Case, id int) api.Errno {
	if e := CheckCase(w, c); e != api.OK {
		return e
	}
	return checkOutlet(w, id)
}

// Fits reports whether things can be so, by what is known.
func Fits(w api.Works, c api.Case, s api.Water) (bool, api.Errno) {
	if e := CheckCase(w, c); e != api.OK {
		return false, e
	}
	if e := CheckWater(w, s); e != api.OK {
		return false, e
	}
	return fits(c, s), api.OK
}

func fits(c api.Case, s api.Water) bool {
	return areIn(s.River, c.River) && areIn(s.Boards, c.Boards)
}

func areIn(l []int, spans []api.Span) bool {
	for i, n := range l {
		if !has(spans[i], n) {
			return false
		}
	}
	return true
}

// extreme returns how things are at an end of what flows: at the least one if way is 1, at the greatest one if it is -1.
func extreme(w api.Works, c api.Case, g signs, way int) api.Water {
	end := func(l []int, i int, x api.Span) int {
		if l[i]*way < 0 {
			return x.Hi
		}
		return x.Lo
	}
	var s api.Water
	for i, x := range c.River {
		s.River = append(s.River, end(g.heads, i, x))
	}
	for p, o := range places(w) {
		s.Boards = append(s.Boards, end(g.hatches, p.at, c.Boards[p.at]))
		s.Leaks = append(s.Leaks, end(g.hatches, p.at, o.Leak))
		s.Losses = append(s.Losses, end(g.reaches, p.at, o.Loss))
	}
	return s
}

func endsOf(w api.Works, c api.Case, id int) api.Supply {
	p, _ := find(w, id)
	g := signsOf(w, id)
	x := api.Supply{Least: extreme(w, c, g, 1), Most: extreme(w, c, g, -1)}
	x.Flow.Lo = run(w, x.Least).through[p.at]
	x.Flow.Hi = run(w, x.Most).through[p.at]
	return x
}

// Ends returns the least and the greatest flow of an outlet.
func Ends(w api.Works, c api.Case, id int) (api.Supply, api.Errno) {
	if e := checkCaseOf(w, c, id); e != api.OK {
		return api.Supply{}, e
	}
	return endsOf(w, c, id), api.OK
}

// CheckEnds returns OK if a supply is that of an outlet.
func CheckEnds(w api.Works, c api.Case, id int, x api.Supply) api.Errno {
	if e := checkCaseOf(w, c, id); e != api.OK {
		return e
	}
	if x.Flow != endsOf(w, c, id).Flow {
		return api.ErrProof
	}
	if !gives(w, c, id, x.Least, x.Flow.Lo) || !gives(w, c, id, x.Most, x.Flow.Hi) {
		return api.ErrProof
	}
	return api.OK
}

// gives reports whether things can be so, and so much flows through an outlet then.
func gives(w api.Works, c api.Case, id int, s api.Water, flow int) bool {
	if !isWater(w, s) || !fits(c, s) {
		return false
	}
	p, _ := find(w, id)
	return run(w, s).through[p.at] == flow
}

// Spans returns the least and the greatest flow of each outlet.
func Spans(w api.Works, c api.Case) ([]api.Span, api.Errno) {
	if e := CheckCase(w, c); e != api.OK {
		return nil, e
	}
	var l []api.Span
	for _, o := range places(w) {
		l = append(l, endsOf(w, c, o.ID).Flow)
	}
	return l, api.OK
}

// Rests returns the outlets whose board matters for the ends of an outlet.
func Rests(w api.Works, c api.Case, id int) ([]int, api.Errno) {
	if e := checkCaseOf(w, c, id); e != api.OK {
		return nil, e
	}
	flow := endsOf(w, c, id).Flow
	return among(w, func(p place, o api.Outlet) bool {
		wider := api.Case{River: c.River, Boards: slices.Clone(c.Boards)}
		wider.Boards[p.at] = boards(o)
		return endsOf(w, wider, id).Flow != flow
	}), api.OK
}
