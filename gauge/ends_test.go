package gauge_test

import (
	"slices"
	"testing"

	"drowner/api"
	"drowner/gauge"
)

// P3.4: the well with a further peg.
func TestAsked(t *testing.T) {
	for i, x := range []struct {
		w api.Well
		s api.Span
	}{
		{meadow(), span(1, 2)}, {pegged(), span(0, api.MaxLevel)}, {api.Well{Top: 5}, span(400, 400)}, {broken(), span(0, 0)},
	} {
		for _, minute := range []int{0, 15, api.MaxMinute} {
			a, e := gauge.Asked(x.w, minute, x.s)
			if e != api.OK || !sameWell(a, asked(x.w, minute, x.s)) {
				t.Error(i, a, e)
			}
		}
	}
	w := pegged()
	w.Pegs[0].ID = 77
	a, e := gauge.Asked(w, 3, span(1, 2))
	if e != api.OK || a.Pegs[1] != (api.Peg{ID: 78, Minute: 3, Span: span(1, 2)}) {
		t.Error(a, e)
	}
}

// P3.4: its errors; a span that is none comes ahead of too many pegs.
func TestAskedErrors(t *testing.T) {
	full, last := meadow(), pegged()
	full.Pegs = pegs(api.MaxPegs)
	last.Looks[1].ID = api.MaxID
	almost := pegged()
	almost.Looks[1].ID = api.MaxID - 1
	few := meadow()
	few.Pegs = pegs(api.MaxPegs - 1)
	for what, x := range map[string]struct {
		e api.Errno
		w api.Well
	}{"as many pegs as there may be": {api.ErrLimit, full}, "the last ID": {api.ErrLimit, last}, "the ID before it": {api.OK, almost}, "one peg less": {api.OK, few}} {
		a, e := gauge.Asked(x.w, 5, span(0, 400))
		want(t, what, e, x.e)
		if e != api.OK && !sameWell(a, api.Well{}) {
			t.Error(what, a)
		}
		for _, s := range []api.Span{span(1, 0), span(-1, 0), span(0, 401), span(low, far), span(-2, -1)} {
			a, e := gauge.Asked(x.w, 5, s)
			if e != api.ErrArg || !sameWell(a, api.Well{}) {
				t.Error(what, s, a, e)
			}
		}
		for _, minute := range badMinutes() {
			_, e := gauge.Asked(x.w, minute, span(0, 1))
			want(t, "a bad minute", e, api.ErrArg)
		}
		_, e = gauge.Of(x.w, 5)
		want(t, "Of "+what, e, x.e)
		_, e = gauge.Rests(x.w, 5)
		want(t, "Rests "+what, e, x.e)
		if e != api.OK {
			want(t, "CheckRange "+what, gauge.CheckRange(x.w, 5, api.Range{}), x.e)
		}
	}
	full.Looks[1].Shown = 400
	_, e := gauge.Of(full, 5)
	want(t, "too many pegs, and no tale", e, api.ErrLimit)
}

// P3.5: the chapter's examples.
func TestOfExamples(t *testing.T) {
	for minute, x := range map[int]api.Span{0: span(47, 53), 10: span(57, 73), 15: span(67, 83), 20: span(77, 83), 30: span(67, 100), api.MaxMinute: span(0, 100)} {
		r, e := gauge.Of(meadow(), minute)
		if e != api.OK || r.Span != x {
			t.Error(minute, r, e)
		}
	}
	for minute, x := range map[int]api.Span{0: span(47, 53), 10: span(57, 73), 15: span(67, 70), 20: span(77, 80)} {
		r, e := gauge.Of(pegged(), minute)
		if e != api.OK || r.Span != x {
			t.Error(minute, r, e)
		}
	}
	r, e := gauge.Of(api.Well{Top: 5}, 9)
	if e != api.OK || r.Span != span(0, 5) || len(r.Below)+len(r.Above) != 0 {
		t.Error(r, e)
	}
}

// P3.5, P3.11: the ends are those of all tales, what proves them is right, and no other ends are taken.
func TestOfAgainstAllTales(t *testing.T) {
	eachWell(t, 8, 500, func(w api.Well, all []api.Tale) {
		for minute := range 7 {
			x, is := endsAt(w, minute)
			r, e := gauge.Of(w, minute)
			if !is {
				if e != api.ErrClash || r.Span != (api.Span{}) {
					t.Error(minute, r, e)
				}
				continue
			}
			if e != api.OK || r.Span != x {
				t.Error(minute, r, x, e)
			}
			if !isTale(asked(w, minute, span(x.Lo, x.Lo)), r.Low) || !isTale(asked(w, minute, span(x.Hi, x.Hi)), r.High) {
				t.Error(minute, "tales", r)
			}
			if x.Lo == 0 && len(r.Below) > 0 || x.Lo > 0 && !isProof(asked(w, minute, span(0, x.Lo-1)), r.Below) {
				t.Error(minute, "below", r)
			}
			if x.Hi == w.Top && len(r.Above) > 0 || x.Hi < w.Top && !isProof(asked(w, minute, span(x.Hi+1, w.Top)), r.Above) {
				t.Error(minute, "above", r)
			}
			want(t, "CheckRange", gauge.CheckRange(w, minute, r), api.OK)
			for lo := -1; lo <= w.Top+1; lo++ {
				for hi := -1; hi <= w.Top+1; hi++ {
					r.Span = span(lo, hi)
					if r.Span != x {
						want(t, "another span", gauge.CheckRange(w, minute, r), api.ErrProof)
					}
				}
			}
		}
	})
}

// P3.5: each part of a range has to be right, and any tales and proofs will do.
func TestCheckRange(t *testing.T) {
	w := meadow()
	good := func() api.Range {
		r, _ := gauge.Of(w, 15)
		return r
	}
	for i, x := range []struct {
		e  api.Errno
		do func(r *api.Range)
	}{
		{api.OK, func(r *api.Range) {}},
		{api.OK, func(r *api.Range) { r.Low = api.Tale{Stuck: []int{2}, Levels: []int{53, 72, 67, 77}} }},
		{api.OK, func(r *api.Range) { r.Low = api.Tale{Stuck: []int{2}, Levels: []int{50, 57, 67, 77}} }},
		{api.OK, func(r *api.Range) { r.Above[1][0].Levels = []api.Span{span(46, 53)} }},
		{api.OK, func(r *api.Range) {
			r.Below[len(r.Below)-1] = append(r.Below[len(r.Below)-1], api.Stand{Runs: []int{2}})
		}},
		{api.ErrProof, func(r *api.Range) { r.Low = r.High }},
		{api.ErrProof, func(r *api.Range) { r.High = r.Low }},
		{api.ErrProof, func(r *api.Range) { r.Low.Stuck = nil }},
		{api.ErrProof, func(r *api.Range) { r.High = api.Tale{} }},
		{api.ErrProof, func(r *api.Range) { r.Low.Levels[0] = 54 }},
		{api.ErrProof, func(r *api.Range) { r.High.Levels = r.High.Levels[:3] }},
		{api.ErrProof, func(r *api.Range) { r.Below = nil }},
		{api.ErrProof, func(r *api.Range) { r.Above = nil }},
		{api.ErrProof, func(r *api.Range) { r.Above, r.Below = r.Below, r.Above }},
		{api.ErrProof, func(r *api.Range) { r.Above[0][0].Levels[0].Lo++ }},
		{api.ErrProof, func(r *api.Range) { r.Below[0] = make([]api.Stand, api.MaxStands+1) }},
		{api.ErrProof, func(r *api.Range) { r.Below = make([][]api.Stand, api.MaxLooks+api.MaxPegs+1) }},
		{api.ErrProof, func(r *api.Range) { r.Span = span(83, 67) }},
		{api.ErrProof, func(r *api.Range) { r.Span = span(low, far) }},
		{api.ErrProof, func(r *api.Range) { r.Span = span(67, 101) }},
		{api.ErrProof, func(r *api.Range) { r.Span = span(-1, 83) }},
		{api.ErrProof, func(r *api.Range) { *r = api.Range{} }},
	} {
		r := good()
		x.do(&r)
		if e := gauge.CheckRange(w, 15, r); e != x.e {
			t.Error(i, r, e)
		}
	}
	want(t, "another minute", gauge.CheckRange(w, 16, good()), api.ErrProof)
	want(t, "another well", gauge.CheckRange(pegged(), 15, good()), api.ErrProof)
	want(t, "no tale", gauge.CheckRange(broken(), 15, good()), api.ErrProof)
}

// P3.5: where an end is that of the well, there is nothing behind it to be proved.
func TestNothingToProve(t *testing.T) {
	w := meadow()
	r, e := gauge.Of(w, api.MaxMinute)
	if e != api.OK || r.Span != span(0, 100) || len(r.Below)+len(r.Above) != 0 {
		t.Fatal(r, e)
	}
	want(t, "nothing", gauge.CheckRange(w, api.MaxMinute, r), api.OK)
	r.Below, r.Above = [][]api.Stand{}, [][]api.Stand{}
	want(t, "nothing, but not nil", gauge.CheckRange(w, api.MaxMinute, r), api.OK)
	other, _ := gauge.Of(w, 15)
	r.Below = other.Below
	want(t, "something below 0", gauge.CheckRange(w, api.MaxMinute, r), api.ErrProof)
	r.Below, r.Above = nil, [][]api.Stand{nil}
	want(t, "something above the top", gauge.CheckRange(w, api.MaxMinute, r), api.ErrProof)
}

// P3.5, P3.11: the greatest wells.
func TestBroadEnds(t *testing.T) {
	w := broad()
	for _, minute := range []int{0, 77, 161, 5000} {
		r, e := gauge.Of(w, minute)
		if e != api.OK || gauge.CheckRange(w, minute, r) != api.OK {
			t.Error(minute, r.Span, e)
		}
		if !isTale(asked(w, minute, span(r.Span.Lo, r.Span.Lo)), r.Low) || !isTale(asked(w, minute, span(r.Span.Hi, r.Span.Hi)), r.High) {
			t.Error(minute, r.Low, r.High)
		}
		for _, s := range []api.Span{span(r.Span.Lo-1, r.Span.Hi), span(r.Span.Lo+1, r.Span.Hi), span(r.Span.Lo, r.Span.Hi-1), span(r.Span.Lo, r.Span.Hi+1)} {
			r.Span = s
			want(t, "another span", gauge.CheckRange(w, minute, r), api.ErrProof)
		}
	}
}

// P3.11: tales lie within the ends, and these change no faster than the level.
func TestEndsChangeSlowly(t *testing.T) {
	eachWell(t, 9, 400, func(w api.Well, all []api.Tale) {
		if len(all) == 0 {
			return
		}
		var ends []api.Span
		for minute := range 8 {
			r, _ := gauge.Of(w, minute)
			ends = append(ends, r.Span)
		}
		for a, x := range ends {
			for b, y := range ends[a:] {
				if max(y.Lo-x.Lo, y.Hi-x.Hi) > w.Rise*b || max(x.Lo-y.Lo, x.Hi-y.Hi) > w.Fall*b {
					t.Error(a, a+b, x, y)
				}
			}
		}
		for _, x := range all {
			for i, y := range things(w) {
				if n := x.Levels[i]; n < ends[y.minute].Lo || n > ends[y.minute].Hi {
					t.Error(x, y.id, ends[y.minute])
				}
			}
		}
	})
}

// P3.14: of a level that is true, and gauges that stick now and then, there is a tale, and it lies within all ends.
func TestTrueLevels(t *testing.T) {
	r := chance(10)
	stuck := 0
	for range 60 {
		w := api.Well{Top: 400, Rise: r.IntN(21), Fall: r.IntN(21), Gauges: []api.Gauge{{ID: 3, Error: r.IntN(51), Stick: r.IntN(6)}, {ID: 5, Error: r.IntN(10), Stick: r.IntN(6)}}}
		level := []int{r.IntN(401)}
		for range 100 {
			n := level[len(level)-1] + r.IntN(w.Rise+w.Fall+1) - w.Fall
			level = append(level, min(max(n, 0), w.Top))
		}
		var told api.Tale
		var shown, runs [2]int
		for minute := r.IntN(9); minute <= 100 && len(w.Looks) < api.MaxLooks; minute += 1 + r.IntN(9) {
			g := r.IntN(2)
			x := api.Look{ID: 1000 - minute, Gauge: 3 + 2*g, Minute: minute, Shown: shown[g]}
			if shown[g] > 0 && runs[g] < w.Gauges[g].Stick && r.IntN(3) > 0 {
				told.Stuck = append(told.Stuck, x.ID)
				runs[g]++
			} else {
				far := w.Gauges[g].Error
				x.Shown = max(level[minute]+r.IntN(2*far+1)-far, 0)
				runs[g], shown[g] = 0, x.Shown
			}
			w.Looks = append(w.Looks, x)
			told.Levels = append(told.Levels, level[minute])
		}
		slices.Sort(told.Stuck)
		stuck += len(told.Stuck)
		want(t, "what is true", gauge.CheckTale(w, told), api.OK)
		for minute := 0; minute <= 100; minute += 7 {
			x, e := gauge.Of(w, minute)
			if e != api.OK || level[minute] < x.Span.Lo || level[minute] > x.Span.Hi {
				t.Fatal(w, minute, level[minute], x.Span, e)
			}
		}
		live, _ := gauge.Live(w)
		sure, _ := gauge.Stuck(w)
		for _, id := range told.Stuck {
			if slices.Contains(live, id) {
				t.Error(w, id, "is stuck, and told to be live")
			}
		}
		for _, id := range sure {
			if !slices.Contains(told.Stuck, id) {
				t.Error(w, id, "is live, and told to be stuck")
			}
		}
	}
	if stuck < 100 {
		t.Error("too few are stuck:", stuck)
	}
}
