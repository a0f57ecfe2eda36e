package gauge_test

import (
	"slices"
	"testing"

	"drowner/api"
	"drowner/gauge"
)

// P3.8, P3.13: without what the ends rest on, by all tales of the wells without an item.
func TestRestsAgainstAllTales(t *testing.T) {
	rests, bare := 0, 0
	eachWell(t, 11, 600, func(w api.Well, all []api.Tale) {
		for minute := 0; minute < 7; minute += 3 {
			l, e := gauge.Rests(w, minute)
			x, is := endsAt(w, minute)
			if !is {
				if e != api.ErrClash || len(l) > 0 {
					t.Error(minute, l, e)
				}
				continue
			}
			var rest []int
			for _, id := range idsOf(w) {
				y, is := endsAt(less(w, id), minute)
				if !is {
					bare++
				}
				if !is || y != x {
					rest = append(rest, id)
				}
				if peg := slices.ContainsFunc(w.Pegs, func(p api.Peg) bool { return p.ID == id }); peg && (!is || y.Lo > x.Lo || y.Hi < x.Hi) {
					t.Error("without a peg an end moves inwards", id, x, y)
				}
			}
			slices.Sort(rest)
			rests += len(rest)
			if e != api.OK || !slices.Equal(l, rest) {
				t.Error(minute, l, rest, e)
			}
		}
	})
	if rests < 100 || bare < 10 {
		t.Error("too little rests on items:", rests, bare)
	}
}

// P3.8: the chapter's well, and a reading that one that sticks needs.
func TestRestsExamples(t *testing.T) {
	l, e := gauge.Rests(pegged(), 15)
	if e != api.OK || !slices.Equal(l, []int{1, 3, 4}) {
		t.Error(l, e)
	}
	w := api.Well{Top: 100, Rise: 1, Fall: 1, Gauges: []api.Gauge{{ID: 1, Stick: 1}}, Looks: []api.Look{{ID: 9, Gauge: 1, Minute: 0, Shown: 50}, {ID: 5, Gauge: 1, Minute: 10, Shown: 50}}, Pegs: []api.Peg{{ID: 6, Minute: 10, Span: span(60, 100)}}}
	l, e = gauge.Rests(w, 10)
	if e != api.OK || !slices.Equal(l, []int{6, 9}) {
		t.Error(l, e)
	}
	if _, e := gauge.Find(less(w, 9)); e != api.ErrClash {
		t.Error("the second reading sticks without a first one", e)
	}
	w.Looks[0].Shown, w.Looks[1].Shown, w.Pegs[0].Span = 0, 0, span(3, 9) // the ends are 0 to 0, and without 9 there are none
	l, e = gauge.Rests(w, 0)
	if e != api.OK || !slices.Equal(l, []int{9}) {
		t.Error(l, e)
	}
	last := pegged() // the greatest ID is that of an item which goes
	last.Pegs[0].ID = 50
	l, e = gauge.Rests(last, 15)
	if e != api.OK || !slices.Equal(l, []int{1, 3, 50}) {
		t.Error(l, e)
	}
	l, e = gauge.Rests(api.Well{Top: 3}, 0)
	if e != api.OK || len(l) != 0 {
		t.Error(l, e)
	}
}

// P3.8, P3.13: without each suspect there is a tale, and without no other item.
func TestSuspectsAgainstAllTales(t *testing.T) {
	found := 0
	eachWell(t, 12, 1500, func(w api.Well, all []api.Tale) {
		l, e := gauge.Suspects(w)
		var suspects []int
		for _, id := range idsOf(w) {
			if len(all) == 0 && len(tales(less(w, id))) > 0 {
				suspects = append(suspects, id)
			}
		}
		slices.Sort(suspects)
		found += len(suspects)
		if e != api.OK || !slices.Equal(l, suspects) {
			t.Error(l, suspects, e)
		}
	})
	if found < 50 {
		t.Error("too few suspects:", found)
	}
	l, e := gauge.Suspects(broken())
	if e != api.OK || !slices.Equal(l, []int{1, 2}) {
		t.Error(l, e)
	}
	l, e = gauge.Suspects(meadow())
	if e != api.OK || len(l) != 0 {
		t.Error(l, e)
	}
}

// P3.8: the well without some items; the others keep their order.
func TestWithout(t *testing.T) {
	w := pegged()
	w.Looks[0], w.Looks[2] = w.Looks[2], w.Looks[0]
	w.Pegs = append(w.Pegs, api.Peg{ID: 9, Minute: 3, Span: span(0, 100)}, api.Peg{ID: 8, Minute: 3, Span: span(0, 100)})
	for _, ids := range [][]int{nil, {}, {1}, {4}, {9, 3}, {3, 3, 9, 9}, {1, 2, 3, 4, 8, 9}, {7, 77, 0, -1, far, low}, {8, 2, 100}} {
		left := w
		for _, id := range ids {
			left = less(left, id)
		}
		a, e := gauge.Without(w, ids)
		if e != api.OK || !sameWell(a, left) {
			t.Error(ids, a, left, e)
		}
	}
}
