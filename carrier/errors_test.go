package carrier_test

import (
	"slices"
	"strconv"
	"testing"

	"drowner/api"
	"drowner/carrier"
)

// in is all that a call can be given.
type in struct {
	w        api.Works
	s        api.Water
	c        api.Case
	id, want int
	x        api.Supply
	l        []api.Run
	carrier  int
}

func good() in {
	x, _ := carrier.Ends(meadow(), known(), 4)
	return in{meadow(), now(), known(), 4, 20, x, []api.Run{{Minutes: 3, Water: now()}}, 1}
}

// call is a function of the chapter; it returns the error, and whether all else is zero.
type call struct {
	name             string
	id, water, known bool // what it is given
	do               func(a in) (api.Errno, bool)
}

func numbers(l []int, e api.Errno) (api.Errno, bool) { return e, len(l) == 0 }

func noWater(s api.Water) bool {
	return len(s.River)+len(s.Boards)+len(s.Leaks)+len(s.Losses) == 0
}

func calls() []call {
	return []call{
		{"Check", false, false, false, func(a in) (api.Errno, bool) { return carrier.Check(a.w), true }},
		{"Heads", false, false, false, func(a in) (api.Errno, bool) { return numbers(carrier.Heads(a.w)) }},
		{"Outlets", false, false, false, func(a in) (api.Errno, bool) { return numbers(carrier.Outlets(a.w)) }},
		{"Beds", false, false, false, func(a in) (api.Errno, bool) { return numbers(carrier.Beds(a.w)) }},
		{"Path", true, false, false, func(a in) (api.Errno, bool) { return numbers(carrier.Path(a.w, a.id)) }},
		{"Below", true, false, false, func(a in) (api.Errno, bool) { return numbers(carrier.Below(a.w, a.id)) }},
		{"CheckWater", false, true, false, func(a in) (api.Errno, bool) { return carrier.CheckWater(a.w, a.s), true }},
		{"Flow", false, true, false, func(a in) (api.Errno, bool) { return numbers(carrier.Flow(a.w, a.s)) }},
		{"Tails", false, true, false, func(a in) (api.Errno, bool) { return numbers(carrier.Tails(a.w, a.s)) }},
		{"Lost", false, true, false, func(a in) (api.Errno, bool) {
			n, e := carrier.Lost(a.w, a.s)
			return e, n == 0
		}},
		{"Signs", true, false, false, func(a in) (api.Errno, bool) {
			h, o, r, e := carrier.Signs(a.w, a.id)
			return e, len(h)+len(o)+len(r) == 0
		}},
		{"CheckCase", false, false, true, func(a in) (api.Errno, bool) { return carrier.CheckCase(a.w, a.c), true }},
		{"Fits", false, true, true, func(a in) (api.Errno, bool) {
			is, e := carrier.Fits(a.w, a.c, a.s)
			return e, !is
		}},
		{"Ends", true, false, true, func(a in) (api.Errno, bool) {
			x, e := carrier.Ends(a.w, a.c, a.id)
			return e, x.Flow == api.Span{} && noWater(x.Least) && noWater(x.Most)
		}},
		{"CheckEnds", true, false, true, func(a in) (api.Errno, bool) { return carrier.CheckEnds(a.w, a.c, a.id, a.x), true }},
		{"Spans", false, false, true, func(a in) (api.Errno, bool) {
			l, e := carrier.Spans(a.w, a.c)
			return e, len(l) == 0
		}},
		{"Rests", true, false, true, func(a in) (api.Errno, bool) { return numbers(carrier.Rests(a.w, a.c, a.id)) }},
		{"Open", true, true, false, func(a in) (api.Errno, bool) {
			n, e := carrier.Open(a.w, a.s, a.id, a.want)
			return e, n == 0
		}},
		{"Send", true, true, false, func(a in) (api.Errno, bool) {
			n, e := carrier.Send(a.w, a.s, a.id, a.want)
			return e, n == 0
		}},
		{"Drunk", false, false, false, func(a in) (api.Errno, bool) { return numbers(carrier.Drunk(a.w, a.l)) }},
		{"Without", false, false, false, func(a in) (api.Errno, bool) {
			w, e := carrier.Without(a.w, a.carrier)
			return e, len(w.Carriers) == 0
		}},
	}
}

// expect calls a function and looks whether the error is as it should be, with nothing beside it.
func expect(t *testing.T, what string, f call, a in, e api.Errno) {
	t.Helper()
	got, zero := f.do(a)
	want(t, f.name+" "+what, got, e)
	if e != api.OK && !zero {
		t.Errorf("%s %s: a result beside the error", f.name, what)
	}
}

// refuse looks whether those functions that take it refuse what is bad, ahead of a bad ID: the order is that of the arguments.
func refuse(t *testing.T, what string, a in, takes func(f call) bool) {
	t.Helper()
	for _, f := range calls() {
		if !takes(f) {
			expect(t, what, f, a, api.OK)
			continue
		}
		b := a
		b.id = 77
		expect(t, what, f, a, api.ErrArg)
		expect(t, what+" and a bad ID", f, b, api.ErrArg)
	}
}

// outlet returns the outlet with an ID, to be changed.
func outlet(w *api.Works, id int) *api.Outlet {
	for _, x := range w.Carriers {
		for i := range x.Outlets {
			if x.Outlets[i].ID == id {
				return &x.Outlets[i]
			}
		}
	}
	return nil
}

// chain returns works of so many carriers, of which each one feeds the next one and so many beds.
func chain(carriers, beds int) api.Works {
	w := api.Works{Carriers: make([]api.Carrier, carriers)}
	id := 0
	for c := range w.Carriers {
		for n := range beds + 1 {
			into := -1
			if n == 0 {
				if into = c + 1; into == carriers {
					continue
				}
			}
			id++
			w.Carriers[c].Outlets = append(w.Carriers[c].Outlets, api.Outlet{ID: id, Into: into, Passes: []int{n}})
		}
	}
	return w
}

// P2.1: each way in which an outlet is not right.
func TestCheckOutlet(t *testing.T) {
	far, low := 1<<63-1, -1<<63
	for i, do := range []func(o *api.Outlet){
		func(o *api.Outlet) { o.ID = 0 }, func(o *api.Outlet) { o.ID = -1 }, func(o *api.Outlet) { o.ID = api.MaxID + 1 }, func(o *api.Outlet) { o.ID = low },
		func(o *api.Outlet) { o.Into = -2 }, func(o *api.Outlet) { o.Into = 0 }, func(o *api.Outlet) { o.Into = 1 }, func(o *api.Outlet) { o.Into = 3 }, func(o *api.Outlet) { o.Into = far }, func(o *api.Outlet) { o.Into = low },
		func(o *api.Outlet) { o.Passes = nil }, func(o *api.Outlet) { o.Passes = []int{} }, func(o *api.Outlet) { o.Passes = []int{-1} }, func(o *api.Outlet) { o.Passes = []int{-1, 0} },
		func(o *api.Outlet) { o.Passes = []int{0, 0} }, func(o *api.Outlet) { o.Passes = []int{0, 2, 1} }, func(o *api.Outlet) { o.Passes = []int{0, 1, 3, 3} },
		func(o *api.Outlet) { o.Passes = []int{api.MaxFlow + 1} }, func(o *api.Outlet) { o.Passes = []int{5, api.MaxFlow + 1} }, func(o *api.Outlet) { o.Passes = []int{0, 1, 2, 3, 4, 5, 6, 7, 8} }, func(o *api.Outlet) { o.Passes = []int{far} },
		func(o *api.Outlet) { o.Leak = span(1, 0) }, func(o *api.Outlet) { o.Leak = span(-1, 0) }, func(o *api.Outlet) { o.Leak = span(0, api.MaxFlow+1) }, func(o *api.Outlet) { o.Leak = span(low, far) }, func(o *api.Outlet) { o.Leak = span(api.MaxFlow+1, api.MaxFlow+1) },
		func(o *api.Outlet) { o.Loss = span(1, 0) }, func(o *api.Outlet) { o.Loss = span(-1, 0) }, func(o *api.Outlet) { o.Loss = span(0, api.MaxFlow+1) }, func(o *api.Outlet) { o.Loss = span(low, far) }, func(o *api.Outlet) { o.Loss = span(-2, -1) },
	} {
		w := meadow()
		w.Carriers = append(w.Carriers, api.Carrier{})
		do(outlet(&w, 3))
		if e := carrier.Check(w); e != api.ErrArg {
			t.Error(i, e)
		}
	}
	for i, do := range []func(o *api.Outlet){
		func(o *api.Outlet) { o.ID = api.MaxID }, func(o *api.Outlet) { o.ID = 5 }, func(o *api.Outlet) { o.Into = 2 },
		func(o *api.Outlet) { o.Passes = []int{0} }, func(o *api.Outlet) { o.Passes = []int{api.MaxFlow} }, func(o *api.Outlet) { o.Passes = []int{0, 1, 2, 3, 4, 5, 6, api.MaxFlow} },
		func(o *api.Outlet) { o.Leak = span(0, 0) }, func(o *api.Outlet) { o.Leak = span(0, api.MaxFlow) }, func(o *api.Outlet) { o.Loss = span(api.MaxFlow, api.MaxFlow) },
	} {
		w := meadow()
		w.Carriers = append(w.Carriers, api.Carrier{})
		do(outlet(&w, 3))
		if e := carrier.Check(w); e != api.OK {
			t.Error(i, e)
		}
	}
	w := meadow()
	outlet(&w, 3).ID = 1
	outlet(&w, 2).ID = 3
	want(t, "the same ID", carrier.Check(w), api.ErrTwice)
	w = meadow()
	w.Carriers = append(w.Carriers, api.Carrier{})
	outlet(&w, 1).Into, outlet(&w, 3).Into = 2, 2
	want(t, "fed from two carriers", carrier.Check(w), api.ErrTwice)
	w = api.Works{Carriers: make([]api.Carrier, 2)}
	w.Carriers[0].Outlets = []api.Outlet{{ID: 1, Into: 1, Passes: []int{1}}, {ID: 2, Into: 1, Passes: []int{1}}}
	want(t, "fed twice", carrier.Check(w), api.ErrTwice)
	w.Carriers[0].Outlets[1] = api.Outlet{ID: 1, Into: -1, Passes: []int{1}}
	want(t, "an ID twice on a carrier", carrier.Check(w), api.ErrTwice)
	w.Carriers[0].Outlets[0].Into, w.Carriers[0].Outlets[1].ID = -1, 2
	want(t, "two beds", carrier.Check(w), api.OK)
	want(t, "nothing", carrier.Check(api.Works{}), api.OK)
}

// P2.1: limits come first; then each outlet, its range ahead of whether it is there twice.
func TestCheckOrder(t *testing.T) {
	want(t, "16 carriers", carrier.Check(chain(api.MaxCarriers, 2)), api.OK)
	want(t, "17 carriers", carrier.Check(chain(api.MaxCarriers+1, 2)), api.ErrLimit)
	full := chain(4, 14)
	full.Carriers[3].Outlets = append(full.Carriers[3].Outlets, api.Outlet{ID: 100, Into: -1, Passes: []int{1}})
	want(t, "60 outlets", carrier.Check(full), api.OK)
	full.Carriers[1].Outlets = append(full.Carriers[1].Outlets, api.Outlet{ID: 101, Into: -1, Passes: []int{1}})
	want(t, "61 outlets", carrier.Check(full), api.ErrLimit)
	full.Carriers[0].Outlets[0].ID = 0
	want(t, "61 outlets, of which one is not right", carrier.Check(full), api.ErrLimit)
	w := chain(api.MaxCarriers+1, 0)
	w.Carriers[0].Outlets[0].Passes = nil
	want(t, "17 carriers, and an outlet that is not right", carrier.Check(w), api.ErrLimit)

	w = meadow()
	outlet(&w, 2).ID, outlet(&w, 3).Passes = 1, nil
	want(t, "twice, then wrong", carrier.Check(w), api.ErrTwice)
	w = meadow()
	outlet(&w, 2).Passes, outlet(&w, 3).ID = nil, 1
	want(t, "wrong, then twice", carrier.Check(w), api.ErrArg)
	w = meadow()
	*outlet(&w, 2) = api.Outlet{ID: 1, Into: -1}
	want(t, "wrong and twice", carrier.Check(w), api.ErrArg)
	w = meadow()
	outlet(&w, 2).Into, outlet(&w, 4).Leak = 1, span(1, 0)
	want(t, "fed twice, then wrong", carrier.Check(w), api.ErrTwice)
	w = meadow()
	outlet(&w, 1).Into, outlet(&w, 4).ID = -1, 0
	want(t, "the last one is wrong", carrier.Check(w), api.ErrArg)
}

// badWorks returns works with the error that Check returns for them.
func badWorks() map[api.Errno]api.Works {
	wrong, twice := meadow(), meadow()
	outlet(&wrong, 4).Passes = nil
	outlet(&twice, 4).ID = 1
	return map[api.Errno]api.Works{api.ErrLimit: chain(api.MaxCarriers+1, 1), api.ErrArg: wrong, api.ErrTwice: twice}
}

// P2.1: all functions return the error of works first, whatever else is wrong.
func TestWorksFirst(t *testing.T) {
	for e, w := range badWorks() {
		for _, f := range calls() {
			a := good()
			a.w = w
			expect(t, "bad works", f, a, e)
			expect(t, "bad works and all else", f, in{w: w, id: -1, want: -1, carrier: -1, s: api.Water{River: []int{-1}}, c: api.Case{River: []api.Span{span(1, 0)}}, l: make([]api.Run, 99)}, e)
		}
	}
	for _, f := range calls() {
		expect(t, "all right", f, good(), api.OK)
	}
}

// badIDs returns IDs that no outlet of the meadow has.
func badIDs() []int { return []int{0, -1, 5, 1 << 40, 1<<63 - 1, -1 << 63} }

// P2.1: an outlet that is not there.
func TestNoSuchOutlet(t *testing.T) {
	for _, f := range calls() {
		for _, id := range badIDs() {
			a := good()
			a.id = id
			e := api.OK
			if f.id {
				e = api.ErrNone
			}
			expect(t, "bad ID", f, a, e)
			if f.id {
				a.want, a.x = -1, api.Supply{}
				expect(t, "bad ID, and what comes behind it", f, a, e)
			}
		}
	}
}

// badWaters returns how things cannot be.
func badWaters() []api.Water {
	var l []api.Water
	for _, do := range []func(s *api.Water){
		func(s *api.Water) { *s = api.Water{} },
		func(s *api.Water) { s.River = nil }, func(s *api.Water) { s.River = []int{100, 100} }, func(s *api.Water) { s.River[0] = -1 }, func(s *api.Water) { s.River[0] = api.MaxFlow + 1 }, func(s *api.Water) { s.River[0] = 1<<63 - 1 },
		func(s *api.Water) { s.Boards = s.Boards[:3] }, func(s *api.Water) { s.Boards = append(s.Boards, 0) }, func(s *api.Water) { s.Boards[0] = -1 }, func(s *api.Water) { s.Boards[0] = 3 }, func(s *api.Water) { s.Boards[3] = 2 }, func(s *api.Water) { s.Boards[2] = -1 << 63 },
		func(s *api.Water) { s.Leaks = s.Leaks[:3] }, func(s *api.Water) { s.Leaks = append(s.Leaks, 0) }, func(s *api.Water) { s.Leaks[0] = -1 }, func(s *api.Water) { s.Leaks[0] = 6 }, func(s *api.Water) { s.Leaks[1] = 0 }, func(s *api.Water) { s.Leaks[3] = 3 }, func(s *api.Water) { s.Leaks[2] = 1 },
		func(s *api.Water) { s.Losses = s.Losses[:3] }, func(s *api.Water) { s.Losses = append(s.Losses, 0) }, func(s *api.Water) { s.Losses[0] = 1 }, func(s *api.Water) { s.Losses[0] = 5 }, func(s *api.Water) { s.Losses[1] = 11 }, func(s *api.Water) { s.Losses[3] = 1 }, func(s *api.Water) { s.Losses[3] = -1 },
	} {
		s := now()
		do(&s)
		l = append(l, s)
	}
	return l
}

// P2.3: what CheckWater refuses, and all functions with water.
func TestCheckWater(t *testing.T) {
	for i, s := range badWaters() {
		want(t, "CheckWater", carrier.CheckWater(meadow(), s), api.ErrArg)
		a := good()
		a.s = s
		refuse(t, "bad water "+strconv.Itoa(i), a, func(f call) bool { return f.water })
	}
	for _, do := range []func(s *api.Water){
		func(s *api.Water) {}, func(s *api.Water) { s.River[0] = 0 }, func(s *api.Water) { s.River[0] = api.MaxFlow }, func(s *api.Water) { s.Boards[0] = 0 }, func(s *api.Water) { s.Boards[2] = 3 },
		func(s *api.Water) { s.Leaks[0] = 0 }, func(s *api.Water) { s.Losses[0] = 4 }, func(s *api.Water) { s.Losses[1] = 0 },
	} {
		s := now()
		do(&s)
		want(t, "CheckWater", carrier.CheckWater(meadow(), s), api.OK)
	}
	want(t, "no works, no water", carrier.CheckWater(api.Works{}, api.Water{}), api.OK)
	want(t, "no works, but water", carrier.CheckWater(api.Works{}, api.Water{River: []int{1}}), api.ErrArg)
}

// badCases returns what cannot be known.
func badCases() []api.Case {
	var l []api.Case
	for _, do := range []func(c *api.Case){
		func(c *api.Case) { *c = api.Case{} },
		func(c *api.Case) { c.River = nil }, func(c *api.Case) { c.River = append(c.River, span(1, 1)) }, func(c *api.Case) { c.River[0] = span(-1, 5) }, func(c *api.Case) { c.River[0] = span(6, 5) }, func(c *api.Case) { c.River[0] = span(6, api.MaxFlow+1) },
		func(c *api.Case) { c.Boards = c.Boards[:3] }, func(c *api.Case) { c.Boards = append(c.Boards, span(0, 0)) }, func(c *api.Case) { c.Boards[0] = span(0, 3) }, func(c *api.Case) { c.Boards[0] = span(-1, 2) }, func(c *api.Case) { c.Boards[0] = span(2, 1) }, func(c *api.Case) { c.Boards[3] = span(0, 2) }, func(c *api.Case) { c.Boards[3] = span(2, 2) },
	} {
		c := known()
		do(&c)
		l = append(l, c)
	}
	return l
}

// P2.5: what CheckCase refuses, and all functions with a case.
func TestCheckCase(t *testing.T) {
	for i, c := range badCases() {
		want(t, "CheckCase", carrier.CheckCase(meadow(), c), api.ErrArg)
		a := good()
		a.c = c
		refuse(t, "bad case "+strconv.Itoa(i), a, func(f call) bool { return f.known })
	}
	for _, do := range []func(c *api.Case){
		func(c *api.Case) {}, func(c *api.Case) { c.River[0] = span(0, api.MaxFlow) }, func(c *api.Case) { c.River[0] = span(5, 5) }, func(c *api.Case) { c.Boards[0] = span(0, 2) }, func(c *api.Case) { c.Boards[0] = span(2, 2) },
	} {
		c := known()
		do(&c)
		want(t, "CheckCase", carrier.CheckCase(meadow(), c), api.OK)
	}
	want(t, "no works, no case", carrier.CheckCase(api.Works{}, api.Case{}), api.OK)
}

// P2.8: the errors of wishes come behind the others.
func TestWishErrors(t *testing.T) {
	for _, f := range calls() {
		if f.name != "Open" && f.name != "Send" {
			continue
		}
		for _, n := range []int{-1, api.MaxFlow + 1, 1<<63 - 1, -1 << 63} {
			a := good()
			a.want = n
			expect(t, "bad want", f, a, api.ErrArg)
			a.id = 9
			expect(t, "bad want and ID", f, a, api.ErrNone)
		}
		a := good()
		a.want = api.MaxFlow
		expect(t, "too much", f, a, api.ErrNone)
		a.want = 0
		expect(t, "nothing", f, a, api.OK)
	}
}

// P2.9: the errors of a course.
func TestCourseErrors(t *testing.T) {
	fine := api.Run{Minutes: 1, Water: now()}
	bad := func(minutes int, s api.Water) api.Run { return api.Run{Minutes: minutes, Water: s} }
	for i, x := range []struct {
		l []api.Run
		e api.Errno
	}{
		{nil, api.OK}, {slices.Repeat([]api.Run{fine}, api.MaxCourse), api.OK}, {slices.Repeat([]api.Run{fine}, api.MaxCourse+1), api.ErrLimit}, {make([]api.Run, api.MaxCourse+1), api.ErrLimit},
		{[]api.Run{bad(0, now())}, api.ErrArg}, {[]api.Run{bad(-1, now())}, api.ErrArg}, {[]api.Run{bad(api.MaxMinute+1, now())}, api.ErrArg}, {[]api.Run{bad(api.MaxMinute, now())}, api.OK}, {[]api.Run{bad(-1<<63, now())}, api.ErrArg},
		{[]api.Run{fine, bad(2, api.Water{})}, api.ErrArg}, {[]api.Run{fine, fine, bad(0, now())}, api.ErrArg},
	} {
		l, e := carrier.Drunk(meadow(), x.l)
		if e != x.e || e != api.OK && len(l) > 0 {
			t.Error(i, l, e)
		}
	}
	for _, s := range badWaters() {
		_, e := carrier.Drunk(meadow(), []api.Run{fine, bad(2, s)})
		want(t, "Drunk", e, api.ErrArg)
	}
}

// P2.10: a carrier that is not there.
func TestNoSuchCarrier(t *testing.T) {
	for _, n := range []int{-1, 2, 3, 16, 1<<63 - 1, -1 << 63} {
		w, e := carrier.Without(meadow(), n)
		if e != api.ErrNone || len(w.Carriers) > 0 {
			t.Error(n, w, e)
		}
	}
	_, e := carrier.Without(api.Works{}, 0)
	want(t, "no works", e, api.ErrNone)
}
