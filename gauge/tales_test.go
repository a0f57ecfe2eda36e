package gauge_test

import (
	"math/rand/v2"
	"slices"
	"testing"

	"drowner/api"
	"drowner/gauge"
)

// P3.2: the chapter's tale, and each way in which one is none.
func TestCheckTale(t *testing.T) {
	for i, x := range []struct {
		e api.Errno
		t api.Tale
	}{
		{api.OK, api.Tale{Stuck: []int{2}, Levels: []int{53, 60, 68, 77}}},
		{api.OK, api.Tale{Stuck: []int{2}, Levels: []int{53, 73, 70, 80}}},
		{api.ErrProof, api.Tale{Stuck: []int{2}, Levels: []int{53, 74, 70, 80}}}, // rises too fast
		{api.ErrProof, api.Tale{Stuck: []int{2}, Levels: []int{53, 73, 67, 77}}}, // falls too fast
		{api.ErrProof, api.Tale{Stuck: []int{2}, Levels: []int{53, 60, 71, 80}}}, // not at the peg
		{api.ErrProof, api.Tale{Stuck: []int{2}, Levels: []int{53, 60, 61, 71}}}, // nor at the reading
		{api.ErrProof, api.Tale{Stuck: []int{2}, Levels: []int{54, 60, 68, 77}}},
		{api.ErrProof, api.Tale{Levels: []int{53, 60, 68, 77}}},
		{api.ErrProof, api.Tale{Levels: []int{53, 53, 63, 73}}},
		{api.ErrProof, api.Tale{Stuck: []int{1, 2}, Levels: []int{53, 60, 68, 77}}}, // nothing is before 1
		{api.ErrProof, api.Tale{Stuck: []int{2, 3}, Levels: []int{53, 60, 68, 77}}}, // 3 shows something else
		{api.ErrProof, api.Tale{Stuck: []int{3}, Levels: []int{50, 53, 63, 73}}},
		{api.ErrProof, api.Tale{Stuck: []int{2, 2}, Levels: []int{53, 60, 68, 77}}},
		{api.ErrProof, api.Tale{Stuck: []int{2, 4}, Levels: []int{53, 60, 68, 77}}}, // 4 is a peg
		{api.ErrProof, api.Tale{Stuck: []int{2, 9}, Levels: []int{53, 60, 68, 77}}},
		{api.ErrProof, api.Tale{Stuck: []int{0, 2}, Levels: []int{53, 60, 68, 77}}},
		{api.ErrProof, api.Tale{Stuck: []int{2}, Levels: []int{53, 60, 68}}},
		{api.ErrProof, api.Tale{Stuck: []int{2}, Levels: []int{53, 60, 68, 77, 77}}},
		{api.ErrProof, api.Tale{Stuck: []int{2}, Levels: []int{53, far, 68, 77}}},
		{api.ErrProof, api.Tale{Stuck: []int{2}, Levels: []int{53, low, 68, 77}}},
		{api.ErrProof, api.Tale{Stuck: []int{2}, Levels: []int{53, 60, 68, -1}}},
		{api.ErrProof, api.Tale{}},
	} {
		if e := gauge.CheckTale(pegged(), x.t); e != x.e {
			t.Error(i, x.t, e)
		}
	}
	want(t, "no items", gauge.CheckTale(api.Well{Top: 5}, api.Tale{}), api.OK)
	want(t, "no items, but a level", gauge.CheckTale(api.Well{Top: 5}, api.Tale{Levels: []int{1}}), api.ErrProof)
}

// row returns a well in which a gauge shows the same so many times, while the level is known to be elsewhere behind the first reading.
func row(n, stick int) api.Well {
	w := api.Well{Top: 100, Rise: 20, Gauges: []api.Gauge{{ID: 7, Stick: stick}}, Looks: looks(n), Pegs: []api.Peg{{ID: 99, Span: span(50, 50)}}}
	for i := range n {
		w.Looks[i].Minute *= 10
	}
	w.Pegs = append(w.Pegs, api.Peg{ID: 100, Minute: 5, Span: span(60, 100)})
	return w
}

// P3.2: a gauge sticks for so many readings that follow each other, and no more; another gauge, or a live reading, begins anew.
func TestSticksSoLong(t *testing.T) {
	for stick := range api.MaxStick + 1 {
		for n := range api.MaxStick + 3 {
			e := api.OK
			if n > stick+1 {
				e = api.ErrClash
			}
			x, got := gauge.Find(row(n, stick))
			if got != e || e == api.OK && len(x.Stuck) != max(n-1, 0) {
				t.Error(stick, n, x, got)
			}
		}
	}
	w := api.Well{Top: 100, Rise: 1, Fall: 1, Gauges: []api.Gauge{{ID: 7, Stick: 1}, {ID: 8, Stick: 1}}, Looks: looks(5)}
	flat := []int{50, 50, 50, 50, 50}
	want(t, "every second one", gauge.CheckTale(w, api.Tale{Stuck: []int{2, 4}, Levels: flat}), api.OK)
	want(t, "two in a row", gauge.CheckTale(w, api.Tale{Stuck: []int{2, 3}, Levels: flat}), api.ErrProof)
	w.Looks[2].Gauge = 8
	want(t, "two in a row of one gauge, with another one between", gauge.CheckTale(w, api.Tale{Stuck: []int{2, 4}, Levels: flat}), api.ErrProof)
	want(t, "the other gauge's first", gauge.CheckTale(w, api.Tale{Stuck: []int{2, 3}, Levels: flat}), api.ErrProof)
	w.Looks[1].Gauge = 8
	want(t, "one of each", gauge.CheckTale(w, api.Tale{Stuck: []int{3, 4}, Levels: flat}), api.OK)
	w.Looks[3].Shown = 51
	want(t, "another number", gauge.CheckTale(w, api.Tale{Stuck: []int{3, 4}, Levels: flat}), api.ErrProof)
	want(t, "between others", gauge.CheckTale(w, api.Tale{Stuck: []int{3, 5}, Levels: []int{50, 50, 50, 51, 51}}), api.ErrProof)
}

// twisted returns a tale that is like another one.
func twisted(r *rand.Rand, w api.Well, x api.Tale) api.Tale {
	y := api.Tale{Stuck: slices.Clone(x.Stuck), Levels: slices.Clone(x.Levels)}
	switch r.IntN(4) {
	case 0, 1:
		if len(y.Levels) > 0 {
			y.Levels[r.IntN(len(y.Levels))] = r.IntN(w.Top+3) - 1
		}
	case 2:
		y.Stuck = append(y.Stuck, 1+r.IntN(12))
		if r.IntN(4) > 0 {
			slices.Sort(y.Stuck)
		}
	case 3:
		if len(y.Stuck) > 0 {
			y.Stuck = slices.Delete(y.Stuck, 0, 1)
		}
	}
	return y
}

// P3.2, P3.10: CheckTale by its definition; what Find returns is one, and it finds one if there is any.
func TestFindAgainstAllTales(t *testing.T) {
	r := chance(2)
	right, wrong := 0, 0
	eachWell(t, 3, 1500, func(w api.Well, all []api.Tale) {
		x, e := gauge.Find(w)
		if len(all) == 0 {
			if e != api.ErrClash || !isNothing(x) {
				t.Error(x, e)
			}
			return
		}
		if e != api.OK || !isTale(w, x) || gauge.CheckTale(w, x) != api.OK {
			t.Error(x, e)
		}
		for range 20 {
			a := all[r.IntN(len(all))]
			b := twisted(r, w, a)
			want(t, "a tale", gauge.CheckTale(w, a), api.OK)
			if isTale(w, b) {
				right++
				want(t, "a twisted tale", gauge.CheckTale(w, b), api.OK)
			} else {
				wrong++
				want(t, "no tale", gauge.CheckTale(w, b), api.ErrProof)
			}
		}
	})
	if right < 1000 || wrong < 1000 {
		t.Error("twisted tales are too much alike:", right, wrong)
	}
}

// P3.10: tales of the greatest wells are such, by their definition.
func TestBroadTales(t *testing.T) {
	w := broad()
	for name, find := range map[string]func(api.Well) (api.Tale, api.Errno){"Find": gauge.Find, "Fewest": gauge.Fewest, "Most": gauge.Most} {
		x, e := find(w)
		if e != api.OK || !isTale(w, x) || gauge.CheckTale(w, x) != api.OK {
			t.Error(name, x, e)
		}
	}
}

// P3.6, P3.7, P3.12: what sticks, by all tales.
func TestStuckAgainstAllTales(t *testing.T) {
	eachWell(t, 4, 1500, func(w api.Well, all []api.Tale) {
		n, e := gauge.Count(w)
		lists := map[string]bool{}
		for _, x := range all {
			s := ""
			for _, id := range x.Stuck {
				s += string(rune('a' + id))
			}
			lists[s] = true
		}
		if n != len(lists) || e != api.OK {
			t.Error("Count", n, len(lists), e)
		}
		if len(all) == 0 {
			return
		}
		live, stuck := sureOf(w, all)
		if l, e := gauge.Live(w); e != api.OK || !slices.Equal(l, live) {
			t.Error("Live", l, live, e)
		}
		if l, e := gauge.Stuck(w); e != api.OK || !slices.Equal(l, stuck) {
			t.Error("Stuck", l, stuck, e)
		}
		few, many := len(w.Looks), 0
		for _, x := range all {
			few, many = min(few, len(x.Stuck)), max(many, len(x.Stuck))
		}
		a, e := gauge.Fewest(w)
		if e != api.OK || !isTale(w, a) || len(a.Stuck) != few {
			t.Error("Fewest", a, few, e)
		}
		b, e := gauge.Most(w)
		if e != api.OK || !isTale(w, b) || len(b.Stuck) != many {
			t.Error("Most", b, many, e)
		}
		if len(a.Stuck) < len(stuck) || len(b.Stuck) > len(w.Looks)-len(live) {
			t.Error("fewer or more than sure", a, b, live, stuck)
		}
		if len(live) == len(w.Looks) && n != 1 {
			t.Error("all are live", n)
		}
	})
}

// sureOf returns the readings that are live in all tales, and those that are stuck.
func sureOf(w api.Well, all []api.Tale) (live, stuck []int) {
	for _, x := range w.Looks {
		n := 0
		for _, t := range all {
			if slices.Contains(t.Stuck, x.ID) {
				n++
			}
		}
		if n == 0 {
			live = append(live, x.ID)
		}
		if n == len(all) {
			stuck = append(stuck, x.ID)
		}
	}
	slices.Sort(live)
	slices.Sort(stuck)
	return live, stuck
}

// P3.6, P3.7: the chapter's examples, with and without the peg.
func TestStuckExamples(t *testing.T) {
	for _, w := range []api.Well{meadow(), pegged()} {
		live, e := gauge.Live(w)
		stuck, f := gauge.Stuck(w)
		if e != api.OK || f != api.OK || !slices.Equal(live, []int{1, 3}) || !slices.Equal(stuck, []int{2}) {
			t.Error(live, stuck, e, f)
		}
		if n, e := gauge.Count(w); n != 1 || e != api.OK {
			t.Error(n, e)
		}
	}
	x, e := gauge.Find(broken())
	if e != api.ErrClash {
		t.Error(x, e)
	}
}

// P3.6, P3.7: a well without readings, and one without items.
func TestStuckOfNothing(t *testing.T) {
	for _, w := range []api.Well{{Top: 5}, {Top: 5, Pegs: []api.Peg{{ID: 1, Span: span(2, 400)}}}} {
		live, e := gauge.Live(w)
		stuck, f := gauge.Stuck(w)
		if e != api.OK || f != api.OK || len(live)+len(stuck) != 0 {
			t.Error(live, stuck, e, f)
		}
		n, e := gauge.Count(w)
		if n != 1 || e != api.OK {
			t.Error(n, e)
		}
		for _, find := range []func(api.Well) (api.Tale, api.Errno){gauge.Find, gauge.Fewest, gauge.Most} {
			x, e := find(w)
			if e != api.OK || len(x.Stuck) != 0 || !isTale(w, x) {
				t.Error(x, e)
			}
		}
	}
}

// P3.7: patterns are counted of 12 readings, and of no more.
func TestCountLimit(t *testing.T) {
	w := api.Well{Top: 100, Rise: 1, Fall: 1, Gauges: []api.Gauge{{ID: 7, Stick: 5}, {ID: 8, Stick: 5}}}
	w.Looks = looks(api.MaxPattern)
	for i := range w.Looks {
		w.Looks[i].Gauge = 7 + i%2
	}
	if n, e := gauge.Count(w); n != 32*32 || e != api.OK {
		t.Error(n, e)
	}
	w.Gauges[0].Stick = 1
	if n, e := gauge.Count(w); n != 13*32 || e != api.OK { // of five readings, no two that follow each other: 13
		t.Error(n, e)
	}
	w.Looks = looks(api.MaxPattern + 1)
	if n, e := gauge.Count(w); n != 0 || e != api.ErrLimit {
		t.Error(n, e)
	}
	w.Looks[3].Shown = 400
	if n, e := gauge.Count(w); n != 0 || e != api.ErrLimit {
		t.Error("no tale, but too many readings", n, e)
	}
	w.Looks = w.Looks[:12]
	if n, e := gauge.Count(w); n != 0 || e != api.OK {
		t.Error("no tale", n, e)
	}
}
