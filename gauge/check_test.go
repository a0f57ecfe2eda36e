package gauge_test

import (
	"slices"
	"testing"

	"drowner/api"
	"drowner/gauge"
)

const (
	far = 1<<63 - 1
	low = -1 << 63
)

// changed is a well that was changed, and the error of Check for it.
type changed struct {
	e  api.Errno
	do func(w *api.Well)
}

// changes are each way in which a well can be wrong, and those in which it just is not.
func changes() []changed {
	no, yes, twice := api.ErrArg, api.OK, api.ErrTwice
	return []changed{
		{yes, func(w *api.Well) {}},
		{no, func(w *api.Well) { w.Top = 0 }}, {no, func(w *api.Well) { w.Top = -1 }}, {no, func(w *api.Well) { w.Top = api.MaxLevel + 1 }}, {no, func(w *api.Well) { w.Top = far }},
		{yes, func(w *api.Well) { w.Top = 1 }}, {yes, func(w *api.Well) { w.Top = api.MaxLevel }},
		{no, func(w *api.Well) { w.Rise = -1 }}, {no, func(w *api.Well) { w.Rise = api.MaxSlope + 1 }}, {yes, func(w *api.Well) { w.Rise = 0 }}, {yes, func(w *api.Well) { w.Rise = api.MaxSlope }},
		{no, func(w *api.Well) { w.Fall = -1 }}, {no, func(w *api.Well) { w.Fall = api.MaxSlope + 1 }}, {yes, func(w *api.Well) { w.Fall = 0 }}, {yes, func(w *api.Well) { w.Fall = api.MaxSlope }}, {no, func(w *api.Well) { w.Fall = low }},
		{no, func(w *api.Well) { w.Gauges[0].ID = 8 }}, {no, func(w *api.Well) { w.Gauges = nil }},
		{no, func(w *api.Well) { w.Gauges[0].ID, w.Looks = 0, nil }}, {no, func(w *api.Well) { w.Gauges[0].ID, w.Looks = api.MaxID+1, nil }}, {yes, func(w *api.Well) { w.Gauges[0].ID, w.Looks = api.MaxID, nil }}, {yes, func(w *api.Well) { w.Gauges[0].ID, w.Looks = 1, nil }},
		{no, func(w *api.Well) { w.Gauges[0].Error = -1 }}, {no, func(w *api.Well) { w.Gauges[0].Error = api.MaxError + 1 }}, {yes, func(w *api.Well) { w.Gauges[0].Error = 0 }}, {yes, func(w *api.Well) { w.Gauges[0].Error = api.MaxError }},
		{no, func(w *api.Well) { w.Gauges[0].Stick = -1 }}, {no, func(w *api.Well) { w.Gauges[0].Stick = api.MaxStick + 1 }}, {yes, func(w *api.Well) { w.Gauges[0].Stick = 0 }}, {yes, func(w *api.Well) { w.Gauges[0].Stick = api.MaxStick }},
		{yes, func(w *api.Well) { w.Gauges = append(w.Gauges, api.Gauge{ID: 1}) }}, {twice, func(w *api.Well) { w.Gauges = append(w.Gauges, api.Gauge{ID: 7}) }}, {no, func(w *api.Well) { w.Gauges = append(w.Gauges, api.Gauge{ID: 7, Error: -1}) }},
		{no, func(w *api.Well) { w.Looks[1].ID = 0 }}, {no, func(w *api.Well) { w.Looks[1].ID = low }}, {no, func(w *api.Well) { w.Looks[1].ID = api.MaxID + 1 }}, {yes, func(w *api.Well) { w.Looks[1].ID = api.MaxID }}, {yes, func(w *api.Well) { w.Looks[1].ID = 7 }},
		{no, func(w *api.Well) { w.Looks[2].Gauge = 1 }}, {no, func(w *api.Well) { w.Looks[2].Gauge = 0 }},
		{no, func(w *api.Well) { w.Looks[2].Minute = -1 }}, {no, func(w *api.Well) { w.Looks[2].Minute = api.MaxMinute + 1 }}, {yes, func(w *api.Well) { w.Looks[2].Minute = api.MaxMinute }}, {no, func(w *api.Well) { w.Looks[0].Minute = far }},
		{no, func(w *api.Well) { w.Looks[2].Shown = -1 }}, {no, func(w *api.Well) { w.Looks[2].Shown = api.MaxLevel + api.MaxError + 1 }}, {yes, func(w *api.Well) { w.Looks[2].Shown = api.MaxLevel + api.MaxError }}, {yes, func(w *api.Well) { w.Looks[2].Shown = 0 }},
		{twice, func(w *api.Well) { w.Looks[2].ID = 1 }}, {twice, func(w *api.Well) { w.Looks[2].Minute = 10 }}, {no, func(w *api.Well) { w.Looks[2].Minute, w.Looks[2].Gauge = 10, 8 }}, {no, func(w *api.Well) { w.Looks[2].ID, w.Looks[2].Shown = 1, -1 }},
		{yes, func(w *api.Well) {
			w.Gauges = append(w.Gauges, api.Gauge{ID: 2})
			w.Looks = append(w.Looks, api.Look{ID: 9, Gauge: 2, Minute: 10})
		}},
		{no, func(w *api.Well) { w.Pegs[0].ID = 0 }}, {no, func(w *api.Well) { w.Pegs[0].ID = api.MaxID + 1 }}, {yes, func(w *api.Well) { w.Pegs[0].ID = api.MaxID }}, {twice, func(w *api.Well) { w.Pegs[0].ID = 3 }}, {yes, func(w *api.Well) { w.Pegs[0].ID = 7 }},
		{no, func(w *api.Well) { w.Pegs[0].Minute = -1 }}, {no, func(w *api.Well) { w.Pegs[0].Minute = api.MaxMinute + 1 }}, {yes, func(w *api.Well) { w.Pegs[0].Minute = api.MaxMinute }}, {yes, func(w *api.Well) { w.Pegs[0].Minute = 10 }},
		{no, func(w *api.Well) { w.Pegs[0].Span = span(1, 0) }}, {no, func(w *api.Well) { w.Pegs[0].Span = span(-1, 5) }}, {no, func(w *api.Well) { w.Pegs[0].Span = span(0, api.MaxLevel+1) }}, {no, func(w *api.Well) { w.Pegs[0].Span = span(low, far) }},
		{yes, func(w *api.Well) { w.Pegs[0].Span = span(0, api.MaxLevel) }}, {yes, func(w *api.Well) { w.Pegs[0].Span = span(api.MaxLevel, api.MaxLevel) }},
		{twice, func(w *api.Well) { w.Pegs = append(w.Pegs, api.Peg{ID: 4}) }}, {yes, func(w *api.Well) { w.Pegs = append(w.Pegs, api.Peg{ID: 5, Minute: 15}) }}, {no, func(w *api.Well) { w.Pegs = append(w.Pegs, api.Peg{ID: 4, Span: span(1, 0)}) }},
	}
}

// P3.1: each way in which a well can be wrong.
func TestCheck(t *testing.T) {
	for i, x := range changes() {
		w := pegged()
		x.do(&w)
		if e := gauge.Check(w); e != x.e {
			t.Error(i, w, e)
		}
	}
	want(t, "nothing but a top level", gauge.Check(api.Well{Top: 1}), api.OK)
	want(t, "nothing", gauge.Check(api.Well{}), api.ErrArg)
}

// looks returns so many readings of the gauge 7.
func looks(n int) []api.Look {
	var l []api.Look
	for i := range n {
		l = append(l, api.Look{ID: 1 + i, Gauge: 7, Minute: i, Shown: 50})
	}
	return l
}

// pegs returns so many pegs.
func pegs(n int) []api.Peg {
	var l []api.Peg
	for i := range n {
		l = append(l, api.Peg{ID: 100 + i, Minute: i, Span: span(0, 100)})
	}
	return l
}

// P3.1: the limits, and which error comes first.
func TestCheckOrder(t *testing.T) {
	w := meadow()
	w.Looks, w.Pegs = looks(api.MaxLooks), pegs(api.MaxPegs)
	w.Gauges = append(w.Gauges, api.Gauge{ID: 1})
	want(t, "as much as there may be", gauge.Check(w), api.OK)
	for what, do := range map[string]func(w *api.Well){
		"gauges":   func(w *api.Well) { w.Gauges = make([]api.Gauge, api.MaxGauges+1) },
		"readings": func(w *api.Well) { w.Looks = looks(api.MaxLooks + 1) },
		"pegs":     func(w *api.Well) { w.Pegs = pegs(api.MaxPegs + 1) },
	} {
		a := w
		do(&a)
		want(t, what, gauge.Check(a), api.ErrLimit)
		a.Top = 0
		want(t, what+" and the top level", gauge.Check(a), api.ErrArg)
		b := pegged()
		b.Gauges, b.Looks = []api.Gauge{{}}, []api.Look{{}}
		do(&b)
		want(t, what+" ahead of elements", gauge.Check(b), api.ErrLimit)
	}
	for what, x := range map[string]changed{
		"twice, then a reading":       {api.ErrTwice, func(w *api.Well) { w.Looks[1].ID, w.Looks[2].Shown = 1, -1 }},
		"a reading, then twice":       {api.ErrArg, func(w *api.Well) { w.Looks[1].Shown, w.Looks[2].ID = -1, 1 }},
		"a gauge twice, then reading": {api.ErrTwice, func(w *api.Well) { w.Gauges, w.Looks[0].ID = append(w.Gauges, w.Gauges[0]), 0 }},
		"a gauge, then a reading":     {api.ErrArg, func(w *api.Well) { w.Gauges[0].Stick, w.Looks[1].ID = -1, 1 }},
		"a reading twice, then peg":   {api.ErrTwice, func(w *api.Well) { w.Looks[1].ID, w.Pegs[0].ID = 1, 0 }},
		"a reading, then a peg twice": {api.ErrArg, func(w *api.Well) { w.Looks[1].ID, w.Pegs[0].ID = 0, 1 }},
		"a peg twice, then a peg":     {api.ErrTwice, func(w *api.Well) { w.Pegs = append(w.Pegs, w.Pegs[0], api.Peg{}) }},
		"a peg, then a peg twice":     {api.ErrArg, func(w *api.Well) { w.Pegs = append(w.Pegs, api.Peg{}, w.Pegs[0]) }},
	} {
		w := pegged()
		x.do(&w)
		want(t, what, gauge.Check(w), x.e)
	}
}

// P3.1: items by their minutes, and then by their IDs, readings and pegs alike.
func TestItems(t *testing.T) {
	l, e := gauge.Items(pegged())
	if e != api.OK || !slices.Equal(l, []int{1, 2, 4, 3}) {
		t.Error(l, e)
	}
	w := pegged()
	w.Gauges = append(w.Gauges, api.Gauge{ID: 1})
	w.Looks = []api.Look{{ID: 9, Gauge: 7, Minute: 5}, {ID: 6, Gauge: 1, Minute: 5}, {ID: 20, Gauge: 7}}
	w.Pegs = []api.Peg{{ID: 8, Minute: 5}, {ID: 1, Minute: 7}, {ID: 21}, {ID: 7, Minute: 5}}
	l, e = gauge.Items(w)
	if e != api.OK || !slices.Equal(l, []int{20, 21, 6, 7, 8, 9, 1}) {
		t.Error(l, e)
	}
	l, e = gauge.Items(api.Well{Top: 1})
	if e != api.OK || len(l) != 0 {
		t.Error(l, e)
	}
	r := chance(1)
	for range 300 {
		w := anyWell(r)
		if l, e := gauge.Items(w); e != api.OK || !slices.Equal(l, idsOf(w)) {
			t.Fatal(w, l, e)
		}
	}
}

// call is a function of the chapter; it returns the error, and whether all else is zero.
type call struct {
	name   string
	minute bool // whether it has one
	do     func(w api.Well, minute int) (api.Errno, bool)
}

func numbers(l []int, e api.Errno) (api.Errno, bool) { return e, len(l) == 0 }

func isNothing(x api.Tale) bool { return len(x.Stuck)+len(x.Levels) == 0 }

func taleOf(x api.Tale, e api.Errno) (api.Errno, bool) { return e, isNothing(x) }

func wellOf(w api.Well, e api.Errno) (api.Errno, bool) { return e, sameWell(w, api.Well{}) }

func sameWell(a, b api.Well) bool {
	return a.Top == b.Top && a.Rise == b.Rise && a.Fall == b.Fall && slices.Equal(a.Gauges, b.Gauges) && slices.Equal(a.Looks, b.Looks) && slices.Equal(a.Pegs, b.Pegs)
}

func calls() []call {
	tooMany := make([][]api.Stand, api.MaxLooks+api.MaxPegs+1)
	return []call{
		{"Check", false, func(w api.Well, _ int) (api.Errno, bool) { return gauge.Check(w), true }},
		{"Items", false, func(w api.Well, _ int) (api.Errno, bool) { return numbers(gauge.Items(w)) }},
		{"CheckTale", false, func(w api.Well, _ int) (api.Errno, bool) { return gauge.CheckTale(w, api.Tale{}), true }},
		{"Find", false, func(w api.Well, _ int) (api.Errno, bool) { return taleOf(gauge.Find(w)) }},
		{"Reach", false, func(w api.Well, _ int) (api.Errno, bool) {
			l, e := gauge.Reach(w)
			return e, len(l) == 0
		}},
		{"Contradiction", false, func(w api.Well, _ int) (api.Errno, bool) {
			l, is, e := gauge.Contradiction(w)
			return e, len(l) == 0 && !is
		}},
		{"CheckContradiction", false, func(w api.Well, _ int) (api.Errno, bool) { return gauge.CheckContradiction(w, tooMany), true }},
		{"Asked", true, func(w api.Well, minute int) (api.Errno, bool) { return wellOf(gauge.Asked(w, minute, span(1, 0))) }},
		{"Of", true, func(w api.Well, minute int) (api.Errno, bool) {
			x, e := gauge.Of(w, minute)
			return e, x.Span == api.Span{} && isNothing(x.Low) && isNothing(x.High) && len(x.Below)+len(x.Above) == 0
		}},
		{"CheckRange", true, func(w api.Well, minute int) (api.Errno, bool) {
			return gauge.CheckRange(w, minute, api.Range{}), true
		}},
		{"Live", false, func(w api.Well, _ int) (api.Errno, bool) { return numbers(gauge.Live(w)) }},
		{"Stuck", false, func(w api.Well, _ int) (api.Errno, bool) { return numbers(gauge.Stuck(w)) }},
		{"Fewest", false, func(w api.Well, _ int) (api.Errno, bool) { return taleOf(gauge.Fewest(w)) }},
		{"Most", false, func(w api.Well, _ int) (api.Errno, bool) { return taleOf(gauge.Most(w)) }},
		{"Count", false, func(w api.Well, _ int) (api.Errno, bool) {
			n, e := gauge.Count(w)
			return e, n == 0
		}},
		{"Rests", true, func(w api.Well, minute int) (api.Errno, bool) { return numbers(gauge.Rests(w, minute)) }},
		{"Suspects", false, func(w api.Well, _ int) (api.Errno, bool) { return numbers(gauge.Suspects(w)) }},
		{"Without", false, func(w api.Well, _ int) (api.Errno, bool) { return wellOf(gauge.Without(w, []int{1})) }},
		{"New", false, func(w api.Well, _ int) (api.Errno, bool) {
			l, e := gauge.New(w)
			return e, l == nil
		}},
	}
}

// badMinutes returns minutes of no season.
func badMinutes() []int { return []int{-1, api.MaxMinute + 1, far, low} }

// P3.1: all functions return the error of the well first, and then that of a minute, with nothing beside it.
func TestWellFirst(t *testing.T) {
	wrong, twice, limit := pegged(), pegged(), pegged()
	wrong.Pegs[0].Minute = -1
	twice.Pegs[0].ID = 3
	limit.Looks = looks(api.MaxLooks + 1)
	for e, w := range map[api.Errno]api.Well{api.ErrArg: wrong, api.ErrTwice: twice, api.ErrLimit: limit} {
		for _, f := range calls() {
			for _, minute := range []int{0, -1} {
				if got, zero := f.do(w, minute); got != e || !zero {
					t.Error(f.name, e, got, zero)
				}
			}
		}
	}
	full := pegged() // with another error behind that of the minute
	full.Pegs = pegs(api.MaxPegs)
	for _, f := range calls() {
		for _, minute := range badMinutes() {
			if got, zero := f.do(full, minute); f.minute && (got != api.ErrArg || !zero) {
				t.Error(f.name, minute, got, zero)
			}
		}
	}
}

// P3.2, P3.5 to P3.8: a well without a tale gives ErrClash, with nothing beside it, where something is told of tales.
func TestClash(t *testing.T) {
	for _, f := range calls() {
		e, zero := f.do(broken(), 5)
		clash := slices.Contains([]string{"Find", "Of", "Live", "Stuck", "Fewest", "Most", "Rests"}, f.name)
		if clash != (e == api.ErrClash) || clash && !zero {
			t.Error(f.name, e, zero)
		}
	}
}
