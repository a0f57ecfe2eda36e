package carrier_test

import (
	"math/rand/v2"
	"slices"
	"testing"

	"drowner/api"
)

// The tests compare the package with what the chapter's definitions say, looked up outlet by outlet, and case by case.

// chance returns numbers that are the same in each run.
func chance(seed uint64) *rand.Rand { return rand.New(rand.NewPCG(seed, 17)) }

func span(lo, hi int) api.Span { return api.Span{Lo: lo, Hi: hi} }

// site is an outlet, with its carrier and its number on that.
type site struct {
	carrier, nth int
	o            api.Outlet
}

func sites(w api.Works) []site {
	var l []site
	for c, x := range w.Carriers {
		for n, o := range x.Outlets {
			l = append(l, site{c, n, o})
		}
	}
	return l
}

// feeder returns the number of the outlet that feeds a carrier, or -1.
func feeder(w api.Works, carrier int) int {
	return slices.IndexFunc(sites(w), func(x site) bool { return x.o.Into == carrier })
}

func headsOf(w api.Works) []int {
	var l []int
	for c := range w.Carriers {
		if feeder(w, c) < 0 {
			l = append(l, c)
		}
	}
	return l
}

// pathOf returns the numbers of the outlets of a path, from the head on.
func pathOf(w api.Works, at int) []int {
	up := feeder(w, sites(w)[at].carrier)
	if up < 0 {
		return []int{at}
	}
	return append(pathOf(w, up), at)
}

// begins returns with how much a carrier begins.
func begins(w api.Works, s api.Water, carrier int) int {
	if up := feeder(w, carrier); up >= 0 {
		_, through, _ := atOutlet(w, s, up)
		return through
	}
	return s.River[slices.Index(headsOf(w), carrier)]
}

// atOutlet returns what is lost at an outlet, what flows through it, and what flows on.
func atOutlet(w api.Works, s api.Water, at int) (lost, through, on int) {
	x := sites(w)[at]
	f := 0
	if x.nth == 0 {
		f = begins(w, s, x.carrier)
	} else {
		_, _, f = atOutlet(w, s, at-1)
	}
	lost = min(f, s.Losses[at])
	through = min(f-lost, x.o.Passes[s.Boards[at]]+s.Leaks[at])
	return lost, through, f - lost - through
}

func flowOf(w api.Works, s api.Water, at int) int {
	_, through, _ := atOutlet(w, s, at)
	return through
}

func tailOf(w api.Works, s api.Water, carrier int) int {
	tail := begins(w, s, carrier)
	for i, x := range sites(w) {
		if x.carrier == carrier {
			_, _, tail = atOutlet(w, s, i)
		}
	}
	return tail
}

func lostOf(w api.Works, s api.Water) int {
	sum := 0
	for i := range sites(w) {
		lost, _, _ := atOutlet(w, s, i)
		sum += lost
	}
	return sum
}

// signsOf returns the signs of an outlet, by their definition.
func signsOf(w api.Works, at int) (heads, hatches, reaches []int) {
	l := sites(w)
	path := pathOf(w, at)
	for _, c := range headsOf(w) {
		sign := 0
		if l[path[0]].carrier == c {
			sign = 1
		}
		heads = append(heads, sign)
	}
	for i, x := range l {
		ahead := slices.ContainsFunc(path, func(p int) bool { return l[p].carrier == x.carrier && x.nth < l[p].nth })
		hatch, reach := 0, 0
		switch {
		case slices.Contains(path, i):
			hatch, reach = 1, -1
		case ahead:
			hatch, reach = -1, -1
		}
		hatches = append(hatches, hatch)
		reaches = append(reaches, reach)
	}
	return heads, hatches, reaches
}

// endOf returns how things are at an end of an outlet, by its definition.
func endOf(w api.Works, c api.Case, at int, least bool) api.Water {
	heads, hatches, reaches := signsOf(w, at)
	end := func(sign int, x api.Span) int {
		switch {
		case sign == 0, sign == 1 && least, sign == -1 && !least:
			return x.Lo
		}
		return x.Hi
	}
	var s api.Water
	for i, x := range c.River {
		s.River = append(s.River, end(heads[i], x))
	}
	for i, x := range sites(w) {
		s.Boards = append(s.Boards, end(hatches[i], c.Boards[i]))
		s.Leaks = append(s.Leaks, end(hatches[i], x.o.Leak))
		s.Losses = append(s.Losses, end(reaches[i], x.o.Loss))
	}
	return s
}

// eachFit calls a function with all that fits a case. What it is given is used again.
func eachFit(w api.Works, c api.Case, do func(s api.Water)) {
	n := len(c.Boards)
	s := api.Water{River: make([]int, len(c.River)), Boards: make([]int, n), Leaks: make([]int, n), Losses: make([]int, n)}
	var places []*int
	var spans []api.Span
	for i, x := range c.River {
		places, spans = append(places, &s.River[i]), append(spans, x)
	}
	for i, x := range sites(w) {
		places = append(places, &s.Boards[i], &s.Leaks[i], &s.Losses[i])
		spans = append(spans, c.Boards[i], x.o.Leak, x.o.Loss)
	}
	var choose func(k int)
	choose = func(k int) {
		if k == len(places) {
			do(s)
			return
		}
		for v := spans[k].Lo; v <= spans[k].Hi; v++ {
			*places[k] = v
			choose(k + 1)
		}
	}
	choose(0)
}

// bruteEnds returns the least and the greatest flow of an outlet over all that fits a case.
func bruteEnds(w api.Works, c api.Case, at int) api.Span {
	x := span(1<<40, -1)
	eachFit(w, c, func(s api.Water) {
		f := flowOf(w, s, at)
		x.Lo, x.Hi = min(x.Lo, f), max(x.Hi, f)
	})
	return x
}

// anyWorks returns works with some carriers, of outlets with some boards, whose numbers are small.
func anyWorks(r *rand.Rand, carriers, outlets, boards, flow, wide int) api.Works {
	w := api.Works{Carriers: make([]api.Carrier, 1+r.IntN(carriers))}
	ids := r.Perm(200)
	var free []int // carriers that nothing feeds yet
	for c := range w.Carriers[1:] {
		free = append(free, c+1)
	}
	for range r.IntN(outlets + 1) {
		c := r.IntN(len(w.Carriers))
		o := api.Outlet{ID: 1 + ids[0], Into: -1, Leak: anySpan(r, 2, wide), Loss: anySpan(r, 2, wide)}
		ids = ids[1:]
		if k := slices.IndexFunc(free, func(x int) bool { return x > c }); k >= 0 && r.IntN(3) > 0 {
			o.Into = free[k]
			free = slices.Delete(free, k, k+1)
		}
		p := r.IntN(3)
		for range 1 + r.IntN(boards) {
			o.Passes = append(o.Passes, p)
			p += 1 + r.IntN(flow)
		}
		w.Carriers[c].Outlets = append(w.Carriers[c].Outlets, o)
	}
	return w
}

// anySpan returns a span that begins at most at lo, and has at most so many numbers.
func anySpan(r *rand.Rand, lo, wide int) api.Span {
	x := r.IntN(lo + 1)
	return span(x, x+r.IntN(wide))
}

// anyCase returns what may be known of works.
func anyCase(r *rand.Rand, w api.Works, river, wide int) api.Case {
	var c api.Case
	for range headsOf(w) {
		c.River = append(c.River, anySpan(r, river, wide))
	}
	for _, x := range sites(w) {
		lo := r.IntN(len(x.o.Passes))
		c.Boards = append(c.Boards, span(lo, lo+r.IntN(len(x.o.Passes)-lo)))
	}
	return c
}

// all returns the case of which all boards are possible.
func all(w api.Works, river api.Span) api.Case {
	var c api.Case
	for range headsOf(w) {
		c.River = append(c.River, river)
	}
	for _, x := range sites(w) {
		c.Boards = append(c.Boards, span(0, len(x.o.Passes)-1))
	}
	return c
}

// anyWater returns something that fits a case.
func anyWater(r *rand.Rand, w api.Works, c api.Case) api.Water {
	in := func(x api.Span) int { return x.Lo + r.IntN(x.Hi-x.Lo+1) }
	var s api.Water
	for _, x := range c.River {
		s.River = append(s.River, in(x))
	}
	for i, x := range sites(w) {
		s.Boards = append(s.Boards, in(c.Boards[i]))
		s.Leaks = append(s.Leaks, in(x.o.Leak))
		s.Losses = append(s.Losses, in(x.o.Loss))
	}
	return s
}

func copyWorks(w api.Works) api.Works {
	w.Carriers = slices.Clone(w.Carriers)
	for c, x := range w.Carriers {
		l := slices.Clone(x.Outlets)
		for i := range l {
			l[i].Passes = slices.Clone(l[i].Passes)
		}
		w.Carriers[c].Outlets = l
	}
	return w
}

func sameWorks(a, b api.Works) bool {
	return slices.EqualFunc(a.Carriers, b.Carriers, func(x, y api.Carrier) bool {
		return slices.EqualFunc(x.Outlets, y.Outlets, func(p, q api.Outlet) bool {
			return p.ID == q.ID && p.Into == q.Into && slices.Equal(p.Passes, q.Passes) && p.Leak == q.Leak && p.Loss == q.Loss
		})
	})
}

func copyWater(s api.Water) api.Water {
	return api.Water{River: slices.Clone(s.River), Boards: slices.Clone(s.Boards), Leaks: slices.Clone(s.Leaks), Losses: slices.Clone(s.Losses)}
}

func sameWater(a, b api.Water) bool {
	return slices.Equal(a.River, b.River) && slices.Equal(a.Boards, b.Boards) && slices.Equal(a.Leaks, b.Leaks) && slices.Equal(a.Losses, b.Losses)
}

func copyCase(c api.Case) api.Case {
	return api.Case{River: slices.Clone(c.River), Boards: slices.Clone(c.Boards)}
}

// meadow, now and known are those of the chapter's examples.
func meadow() api.Works {
	return api.Works{Carriers: []api.Carrier{
		{Outlets: []api.Outlet{
			{ID: 1, Into: 1, Passes: []int{0, 40, 80}, Leak: span(0, 5), Loss: span(2, 4)},
			{ID: 2, Into: -1, Passes: []int{0, 30}, Leak: span(1, 1), Loss: span(0, 10)},
		}},
		{Outlets: []api.Outlet{
			{ID: 3, Into: -1, Passes: []int{0, 10, 20, 50}, Loss: span(1, 3)},
			{ID: 4, Into: -1, Passes: []int{0, 20}, Leak: span(0, 2)},
		}},
	}}
}

func now() api.Water {
	return api.Water{River: []int{100}, Boards: []int{1, 1, 2, 1}, Leaks: []int{5, 1, 0, 2}, Losses: []int{2, 10, 3, 0}}
}

func known() api.Case {
	return api.Case{River: []api.Span{span(60, 100)}, Boards: []api.Span{span(1, 2), span(0, 1), span(2, 2), span(1, 1)}}
}

// want fails a test unless an error is as it should be.
func want(t *testing.T, what string, got, wanted api.Errno) {
	t.Helper()
	if got != wanted {
		t.Errorf("%s: error %d, not %d", what, got, wanted)
	}
}
