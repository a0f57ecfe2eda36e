package gauge_test

import (
	"cmp"
	"math/rand/v2"
	"slices"
	"testing"

	"drowner/api"
	"drowner/gauge"
)

// The tests compare the package with what the chapter's definitions say; of small wells they look at all tales.

// chance returns numbers that are the same in each run.
func chance(seed uint64) *rand.Rand { return rand.New(rand.NewPCG(seed, 17)) }

func span(lo, hi int) api.Span { return api.Span{Lo: lo, Hi: hi} }

// meadow is the well of the chapter's examples, without the peg.
func meadow() api.Well {
	return api.Well{Top: 100, Rise: 2, Fall: 1, Gauges: []api.Gauge{{ID: 7, Error: 3, Stick: 2}}, Looks: []api.Look{{ID: 1, Gauge: 7, Shown: 50}, {ID: 2, Gauge: 7, Minute: 10, Shown: 50}, {ID: 3, Gauge: 7, Minute: 20, Shown: 80}}}
}

// pegged is the same, with the peg.
func pegged() api.Well {
	w := meadow()
	w.Pegs = []api.Peg{{ID: 4, Minute: 15, Span: span(62, 70)}}
	return w
}

// broken is the well of the examples that has no tale.
func broken() api.Well {
	w := meadow()
	w.Looks[1].Shown = 90
	return w
}

func want(t *testing.T, what string, got, e api.Errno) {
	t.Helper()
	if got != e {
		t.Error(what, "gives", got, "and not", e)
	}
}

// thing is an item: a reading or a peg.
type thing struct {
	id, minute int
	look       *api.Look
	peg        *api.Peg
}

// things returns the items of a well, in their order.
func things(w api.Well) []thing {
	var l []thing
	for i, x := range w.Looks {
		l = append(l, thing{x.ID, x.Minute, &w.Looks[i], nil})
	}
	for i, x := range w.Pegs {
		l = append(l, thing{x.ID, x.Minute, nil, &w.Pegs[i]})
	}
	slices.SortFunc(l, func(a, b thing) int { return cmp.Or(a.minute-b.minute, cmp.Compare(a.id, b.id)) })
	return l
}

func idsOf(w api.Well) []int {
	var l []int
	for _, x := range things(w) {
		l = append(l, x.id)
	}
	return l
}

func gaugeOf(w api.Well, id int) api.Gauge {
	return w.Gauges[slices.IndexFunc(w.Gauges, func(g api.Gauge) bool { return g.ID == id })]
}

// before returns the reading before one, or nil.
func before(w api.Well, x api.Look) *api.Look {
	var found *api.Look
	for _, y := range things(w) {
		if y.id == x.ID {
			break
		}
		if y.look != nil && y.look.Gauge == x.Gauge {
			found = y.look
		}
	}
	return found
}

// isLevel reports whether a level may be that of an item, if that is stuck or not.
func isLevel(w api.Well, x thing, level int, stuck bool) bool {
	switch {
	case level < 0 || level > w.Top:
		return false
	case x.peg != nil:
		return x.peg.Span.Lo <= level && level <= x.peg.Span.Hi
	case stuck:
		return true
	}
	far := x.look.Shown - level
	return max(far, -far) <= gaugeOf(w, x.look.Gauge).Error
}

// isStep reports whether a level may become another one in so many minutes.
func isStep(w api.Well, a, b, minutes int) bool {
	return b-a <= w.Rise*minutes && a-b <= w.Fall*minutes
}

// mayStick reports whether just these readings may be stuck, as far as no level matters.
func mayStick(w api.Well, stuck []int) bool {
	for _, x := range w.Looks {
		row := 0
		for y := &x; y != nil && slices.Contains(stuck, y.ID); y = before(w, *y) {
			if b := before(w, *y); b == nil || b.Shown != y.Shown {
				return false
			}
			row++
		}
		if row > gaugeOf(w, x.Gauge).Stick {
			return false
		}
	}
	return true
}

// isTale reports whether a tale is one of a well.
func isTale(w api.Well, t api.Tale) bool {
	l := things(w)
	for i, id := range t.Stuck {
		if i > 0 && id <= t.Stuck[i-1] || !slices.ContainsFunc(w.Looks, func(x api.Look) bool { return x.ID == id }) {
			return false
		}
	}
	if len(t.Levels) != len(l) || !mayStick(w, t.Stuck) {
		return false
	}
	for i, x := range l {
		if !isLevel(w, x, t.Levels[i], slices.Contains(t.Stuck, x.id)) {
			return false
		}
		if i > 0 && !isStep(w, t.Levels[i-1], t.Levels[i], x.minute-l[i-1].minute) {
			return false
		}
	}
	return true
}

// tales returns all tales of a small well.
func tales(w api.Well) []api.Tale {
	var all []api.Tale
	for set := range 1 << len(w.Looks) {
		var stuck []int
		for i, x := range w.Looks {
			if set>>i&1 == 1 {
				stuck = append(stuck, x.ID)
			}
		}
		slices.Sort(stuck)
		if mayStick(w, stuck) {
			all = append(all, talesOf(w, stuck)...)
		}
	}
	return all
}

// talesOf returns all tales with these stuck readings.
func talesOf(w api.Well, stuck []int) []api.Tale {
	l := things(w)
	var all []api.Tale
	levels := make([]int, len(l))
	var choose func(i int)
	choose = func(i int) {
		if i == len(l) {
			all = append(all, api.Tale{Stuck: stuck, Levels: slices.Clone(levels)})
			return
		}
		for n := range w.Top + 1 {
			if isLevel(w, l[i], n, slices.Contains(stuck, l[i].id)) && (i == 0 || isStep(w, levels[i-1], n, l[i].minute-l[i-1].minute)) {
				levels[i] = n
				choose(i + 1)
			}
		}
	}
	choose(0)
	return all
}

// asked returns a well with a further peg.
func asked(w api.Well, minute int, s api.Span) api.Well {
	id := 0
	for _, x := range things(w) {
		id = max(id, x.id)
	}
	w.Pegs = append(slices.Clone(w.Pegs), api.Peg{ID: id + 1, Minute: minute, Span: s})
	return w
}

// endsAt returns the ends at a minute over all tales, and whether there is any.
func endsAt(w api.Well, minute int) (api.Span, bool) {
	a := asked(w, minute, span(0, w.Top))
	at := slices.Index(idsOf(a), a.Pegs[len(a.Pegs)-1].ID)
	x := span(a.Top+1, -1)
	for _, t := range tales(a) {
		x.Lo, x.Hi = min(x.Lo, t.Levels[at]), max(x.Hi, t.Levels[at])
	}
	return x, x.Lo <= x.Hi
}

// less returns a well without an item.
func less(w api.Well, id int) api.Well {
	left := w
	left.Looks, left.Pegs = nil, nil
	for _, x := range w.Looks {
		if x.ID != id {
			left.Looks = append(left.Looks, x)
		}
	}
	for _, x := range w.Pegs {
		if x.ID != id {
			left.Pegs = append(left.Pegs, x)
		}
	}
	return left
}

// anyWell returns a small well of which there are few tales.
func anyWell(r *rand.Rand) api.Well {
	w := api.Well{Top: 1 + r.IntN(5), Rise: r.IntN(3), Fall: r.IntN(3)}
	gauges := r.Perm(9)
	for i := range 1 + r.IntN(2) {
		w.Gauges = append(w.Gauges, api.Gauge{ID: 1 + gauges[i], Error: r.IntN(2), Stick: r.IntN(4)})
	}
	ids := r.Perm(12)
	often := r.IntN(w.Top + 2)
	for range r.IntN(5) {
		x := api.Look{ID: 1 + ids[0], Gauge: w.Gauges[r.IntN(len(w.Gauges))].ID, Minute: r.IntN(6), Shown: often}
		if r.IntN(4) == 0 {
			x.Shown = r.IntN(w.Top + 2)
		}
		w.Looks = append(w.Looks, x)
		if gauge.Check(w) != api.OK { // the gauge's minute is taken
			w.Looks = w.Looks[:len(w.Looks)-1]
		}
		ids = ids[1:]
	}
	for range r.IntN(3) {
		lo := r.IntN(w.Top + 1)
		w.Pegs = append(w.Pegs, api.Peg{ID: 1 + ids[0], Minute: r.IntN(6), Span: span(lo, lo+r.IntN(4))})
		ids = ids[1:]
	}
	return w
}

// eachWell calls a function with many small wells and all their tales, and looks whether those with tales and those without are among them.
func eachWell(t *testing.T, seed uint64, times int, do func(w api.Well, all []api.Tale)) {
	t.Helper()
	r := chance(seed)
	some, none, stuck := 0, 0, 0
	for range times {
		w := anyWell(r)
		all := tales(w)
		if len(all) == 0 {
			none++
		} else {
			some++
		}
		if slices.ContainsFunc(all, func(t api.Tale) bool { return len(t.Stuck) > 0 }) {
			stuck++
		}
		do(w, all)
		if t.Failed() {
			t.Fatal(w)
		}
	}
	if some < times/4 || none < times/20 || stuck < times/10 {
		t.Error("the wells are too much alike:", some, none, stuck)
	}
}

// broad returns a well with the most items, two gauges that stick for long, and the greatest levels.
func broad() api.Well {
	w := api.Well{Top: api.MaxLevel, Rise: 3, Fall: 2, Gauges: []api.Gauge{{ID: 2, Error: 50, Stick: 5}, {ID: 1, Error: 40, Stick: 5}}}
	for i := range api.MaxLooks {
		w.Looks = append(w.Looks, api.Look{ID: 100 - i, Gauge: 1 + i%2, Minute: 7 * i, Shown: 200})
	}
	for i := range api.MaxPegs - 1 {
		w.Pegs = append(w.Pegs, api.Peg{ID: 1 + i, Minute: 15 * i, Span: span(10*i, 400-5*i)})
	}
	return w
}
