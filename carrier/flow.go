package carrier

import (
	"slices"
	"sort"

	"drowner/api"
)

// stream is what flows: through each outlet, to the end of each carrier, and into the ground.
type stream struct {
	through [api.MaxOutlets]int
	tails   [api.MaxCarriers]int
	lost    int
}

// run leads the water from outlet to outlet. What a carrier still has is kept in its tail; an outlet stands before those of the carrier that it feeds, so that one walk in order will do.
func run(w api.Works, s api.Water) stream {
	var f stream
	for i, c := range heads(w) {
		f.tails[c] = s.River[i]
	}
	for p, o := range places(w) {
		here := f.tails[p.carrier]
		lost := min(here, s.Losses[p.at])
		through := min(here-lost, o.Passes[s.Boards[p.at]]+s.Leaks[p.at])
		f.lost += lost
		f.through[p.at] = through
		f.tails[p.carrier] = here - lost - through
		if o.Into >= 0 {
			f.tails[o.Into] = through
		}
	}
	return f
}

// CheckWater returns the first error of how things are.
func CheckWater(w api.Works, s api.Water) api.Errno {
	if e := Check(w); e != api.OK {
		return e
	}
	if !isWater(w, s) {
		return api.ErrArg
	}
	return api.OK
}

func isWater(w api.Works, s api.Water) bool {
	n := count(w)
	if len(s.River) != len(heads(w)) || len(s.Boards) != n || len(s.Leaks) != n || len(s.Losses) != n {
		return false
	}
	for _, r := range s.River {
		if !has(flows(), r) {
			return false
		}
	}
	for p, o := range places(w) {
		if !has(boards(o), s.Boards[p.at]) || !has(o.Leak, s.Leaks[p.at]) || !has(o.Loss, s.Losses[p.at]) {
			return false
		}
	}
	return true
}

// Flow returns what flows through each outlet.
func Flow(w api.Works, s api.Water) ([]int, api.Errno) {
	if e := CheckWater(w, s); e != api.OK {
		return nil, e
	}
	f := run(w, s)
	return cut(f.through[:], count(w)), api.OK
}

// Tails returns what is left at the end of each carrier.
func Tails(w api.Works, s api.Water) ([]int, api.Errno) {
	if e := CheckWater(w, s); e != api.OK {
		return nil, e
	}
	f := run(w, s)
	return cut(f.tails[:], len(w.Carriers)), api.OK
}

// Lost returns what all reaches lose.
func Lost(w api.Works, s api.Water) (int, api.Errno) {
	if e := CheckWater(w, s); e != api.OK {
		return 0, e
	}
	return run(w, s).lost, api.OK
}

// checkWish returns the error of works and water, then that of an outlet, then that of how much is wanted.
func checkWish(w api.Works, s api.Water, id, want int) api.Errno {
	if e := CheckWater(w, s); e != api.OK {
		return e
	}
	if e := checkOutlet(w, id); e != api.OK {
		return e
	}
	if !has(flows(), want) {
		return api.ErrArg
	}
	return api.OK
}

// Open returns the lowest board of an outlet by which it gets at least so much.
func Open(w api.Works, s api.Water, id, want int) (int, api.Errno) {
	if e := checkWish(w, s, id, want); e != api.OK {
		return 0, e
	}
	p, _ := find(w, id)
	s.Boards = slices.Clone(s.Boards)
	return lowest(boards(w.Carriers[p.carrier].Outlets[p.nth]), func(board int) bool {
		s.Boards[p.at] = board
		return run(w, s).through[p.at] >= want
	})
}

// Send returns what the river must at least give a head, so that an outlet gets at least so much.
func Send(w api.Works, s api.Water, id, want int) (int, api.Errno) {
	if e := checkWish(w, s, id, want); e != api.OK {
		return 0, e
	}
	p, _ := find(w, id)
	head := slices.Index(signsOf(w, id).heads, 1)
	s.River = slices.Clone(s.River)
	return lowest(flows(), func(river int) bool {
		s.River[head] = river
		return run(w, s).through[p.at] >= want
	})
}

// lowest returns the least number of a span from 0 that is enough, if any one is: all numbers behind one that is enough are so, too.
func lowest(x api.Span, enough func(int) bool) (int, api.Errno) {
	n := sort.Search(x.Hi+1, enough)
	if n > x.Hi {
		return 0, api.ErrNone
	}
	return n, api.OK
}

// Drunk returns how many buckets flow through each outlet in a course.
func Drunk(w api.Works, l []api.Run) ([]int, api.Errno) {
	if e := checkCourse(w, l); e != api.OK {
		return nil, e
	}
	var sums [api.MaxOutlets]int
	for _, r := range l {
		f := run(w, r.Water)
		for i, n := range f.through {
			sums[i] += n * r.Minutes
		}
	}
	return cut(sums[:], count(w)), api.OK
}

func checkCourse(w api.Works, l []api.Run) api.Errno {
	if e := Check(w); e != api.OK {
		return e
	}
	if len(l) > api.MaxCourse {
		return api.ErrLimit
	}
	for _, r := range l {
		if r.Minutes < 1 || r.Minutes > api.MaxMinute || !isWater(w, r.Water) {
			return api.ErrArg
		}
	}
	return api.OK
}
