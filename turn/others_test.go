package turn_test

import (
	"slices"
	"testing"

	"drowner/api"
	"drowner/turn"
)

// P1.8 and P1.14

func TestUnion(t *testing.T) {
	r := chance(7)
	for range 1000 {
		a, b := anySet(r, 4, 5, 4, 40), anySet(r, 4, 5, 4, 40)
		a.Turns = distinct(a.Turns)
		u, e := turn.Union(a, b)
		if e != api.OK || turn.Check(u) != api.OK {
			t.Fatal(a, b, u, e)
		}
		if wanted := distinct(slices.Concat(a.Turns, b.Turns)); !slices.Equal(u.Turns, wanted) {
			t.Fatal(a, b, u.Turns, wanted)
		}
		single := api.Minutes{Spans: slices.Concat(a.Spans, b.Spans)}
		if wanted := spansOf(api.Span{Lo: 0, Hi: 60}, func(n int) bool { return inSet(single, n) }); !slices.Equal(u.Spans, wanted) {
			t.Fatal(a, b, u.Spans, wanted)
		}
		for n := range 100 {
			if inSet(u, n) != (inSet(a, n) || inSet(b, n)) {
				t.Fatal(a, b, u, n)
			}
		}
	}
}

// distinct returns each turn once, where it comes first.
func distinct(l []api.Turn) []api.Turn {
	var out []api.Turn
	for _, x := range l {
		if !slices.Contains(out, x) {
			out = append(out, x)
		}
	}
	return out
}

func TestUnionEdges(t *testing.T) {
	p, q, o := api.Turn{Period: 9, From: 1, Long: 2}, api.Turn{Period: 9, From: 1, Long: 3}, api.Turn{Period: 3, From: 1, Long: 1}
	for _, x := range []struct{ a, b, wanted api.Minutes }{
		{api.Minutes{}, api.Minutes{}, api.Minutes{}},
		{turns(p, q), turns(q, o, p), turns(p, q, o)},
		{api.Minutes{}, turns(q, p, q, q, p), turns(q, p)},
		{turns(p), api.Minutes{}, turns(p)},
		{spans(api.Span{Lo: 5, Hi: 6}), spans(api.Span{Lo: 7, Hi: 8}), spans(api.Span{Lo: 5, Hi: 8})},
		{spans(api.Span{Lo: 5, Hi: 6}), spans(api.Span{Lo: 8, Hi: 8}), spans(api.Span{Lo: 5, Hi: 6}, api.Span{Lo: 8, Hi: 8})},
		{spans(api.Span{Lo: 9, Hi: 20}, api.Span{Lo: 0, Hi: 1}), spans(api.Span{Lo: 10, Hi: 12}), spans(api.Span{Lo: 0, Hi: 1}, api.Span{Lo: 9, Hi: 20})},
		{spans(api.Span{Lo: 4, Hi: 4}, api.Span{Lo: 3, Hi: 3}), api.Minutes{}, spans(api.Span{Lo: 3, Hi: 4})},
		{spans(api.Span{Lo: api.MaxMinute, Hi: api.MaxMinute}), spans(api.Span{Lo: 0, Hi: api.MaxMinute - 1}), spans(api.Span{Lo: 0, Hi: api.MaxMinute})},
		{spans(api.Span{Lo: 0, Hi: 30}), turns(o), api.Minutes{Turns: []api.Turn{o}, Spans: []api.Span{{Lo: 0, Hi: 30}}}},
	} {
		if u, e := turn.Union(x.a, x.b); e != api.OK || !sameSet(u, x.wanted) {
			t.Error(x, u, e)
		}
	}
}

// Each turn stands in the union once, also one that stands in a set more than once.
func TestUnionOnce(t *testing.T) {
	p, q := api.Turn{Period: 9, From: 1, Long: 2}, api.Turn{Period: 9, From: 1, Long: 3}
	if u, e := turn.Union(turns(p, q, p), turns(q)); e != api.OK || !sameSet(u, turns(p, q)) {
		t.Error(u, e)
	}
}

func TestUnionLimits(t *testing.T) {
	var a, b api.Minutes
	for i := range api.MaxTurns {
		a.Turns = append(a.Turns, api.Turn{Period: 100, From: i, Long: 1})
		b.Turns = append(b.Turns, api.Turn{Period: 100, From: i, Long: 1})
	}
	for i := range api.MaxSingle {
		a.Spans = append(a.Spans, api.Span{Lo: 4 * i, Hi: 4 * i})
		b.Spans = append(b.Spans, api.Span{Lo: 4*i + 1, Hi: 4*i + 1})
	}
	u, e := turn.Union(a, b)
	if e != api.OK || len(u.Turns) != api.MaxTurns || len(u.Spans) != api.MaxSingle {
		t.Error("just as many", len(u.Turns), len(u.Spans), e)
	}
	b.Turns[7].Long = 2
	if u, e := turn.Union(a, b); e != api.ErrLimit || !empty(u) {
		t.Error("a turn too many", u, e)
	}
	if u, e := turn.Union(turns(a.Turns...), turns(b.Turns[7])); e != api.ErrLimit || !empty(u) {
		t.Error("a turn too many", u, e)
	}
	b.Turns[7].Long = 1
	b.Spans[7].Lo++
	b.Spans[7].Hi++
	if u, e := turn.Union(a, b); e != api.ErrLimit || !empty(u) {
		t.Error("a span too many", u, e)
	}
	b.Spans[7].Hi++ // it touches the next one
	if u, e := turn.Union(a, b); e != api.OK || len(u.Spans) != api.MaxSingle {
		t.Error("just as many", u, e)
	}
	for wanted, l := range badSets() {
		for _, s := range l {
			for _, p := range [][2]api.Minutes{{s, a}, {a, s}} {
				if u, e := turn.Union(p[0], p[1]); e != wanted || !empty(u) {
					t.Error(p, u, e)
				}
			}
		}
	}
}

func TestShift(t *testing.T) {
	r := chance(8)
	for range 500 {
		s := anySet(r, 4, 0, 40, 0)
		by := r.IntN(201) - 100
		if r.IntN(9) == 0 {
			by = []int{0, 1, -1, api.MaxMinute, -api.MaxMinute}[r.IntN(5)]
		}
		u, e := turn.Shift(s, by)
		if e != api.OK || turn.Check(u) != api.OK || len(u.Turns) != len(s.Turns) || len(u.Spans) > 0 {
			t.Fatal(s, by, u, e)
		}
		for i, x := range s.Turns {
			if y := u.Turns[i]; y.Period != x.Period || y.Long != x.Long || (y.From-x.From-by)%x.Period != 0 {
				t.Fatal(x, by, y)
			}
		}
		for n := range 100 {
			if m := n - by; inSet(u, n) != inSet(s, m) {
				t.Fatal(s, by, u, n)
			}
		}
	}
}

func TestShiftErrors(t *testing.T) {
	good := turns(api.Turn{Period: 10, From: 2, Long: 3}, api.Turn{Period: 10, From: 2, Long: 3})
	for by, from := range map[int]int{0: 2, 7: 9, 8: 0, -2: 0, -3: 9, 10: 2, -10: 2, 25: 7, api.MaxMinute: 8, -api.MaxMinute: 6} {
		wanted := api.Turn{Period: 10, From: from, Long: 3}
		if s, e := turn.Shift(good, by); e != api.OK || !sameSet(s, turns(wanted, wanted)) {
			t.Error(by, s, e)
		}
	}
	if s, e := turn.Shift(api.Minutes{}, 5); e != api.OK || !empty(s) {
		t.Error(s, e)
	}
	for _, by := range []int{api.MaxMinute + 1, -api.MaxMinute - 1, 1<<63 - 1, -1 << 63} {
		if s, e := turn.Shift(good, by); e != api.ErrArg || !empty(s) {
			t.Error(by, s, e)
		}
	}
	both := api.Minutes{Turns: good.Turns, Spans: []api.Span{{Lo: 1, Hi: 1}}}
	for _, by := range []int{0, 1, api.MaxMinute + 1} {
		if s, e := turn.Shift(both, by); e != api.ErrArg || !empty(s) {
			t.Error(by, s, e)
		}
		for wanted, l := range badSets() {
			for _, bad := range l {
				if s, e := turn.Shift(bad, by); e != wanted || !empty(s) {
					t.Error(bad, by, s, e)
				}
			}
		}
	}
}

// P1.9 and P1.15

func TestPeriod(t *testing.T) {
	r := chance(9)
	less := 0
	for i := range 3000 {
		s := turns(anyTurn(r, 12))
		for range r.IntN(5) {
			x := anyTurn(r, 12)
			if i%2 == 0 {
				x.Period = s.Turns[0].Period
				x.From, x.Long = x.From%x.Period, 1+(x.Long-1)%min(3, x.Period)
			}
			s.Turns = append(s.Turns, x)
		}
		l := 1
		for _, x := range s.Turns {
			l = lcm(l, x.Period)
		}
		p, ok := firstOf(api.Span{Lo: 1, Hi: l}, func(p int) bool { return comesAgain(s, p, l) })
		got, e := turn.Period(s)
		if !ok || e != api.OK || got != p {
			t.Fatal("period", s, got, e, p)
		}
		if p < l {
			less++
		}
		checkFewest(t, s, p)
	}
	if less < 500 {
		t.Error("the sets say too little:", less)
	}
}

// comesAgain reports whether a set whose minutes come again after l integers does so after p.
func comesAgain(s api.Minutes, p, l int) bool {
	for n := range l {
		if inSet(s, n) != inSet(s, n+p) {
			return false
		}
	}
	return true
}

// checkFewest looks for where the minutes of a set begin on the round of a period.
func checkFewest(t *testing.T, s api.Minutes, p int) {
	t.Helper()
	var wanted []api.Turn
	for from := range p {
		if !inSet(s, from) || inSet(s, from+p-1) {
			continue
		}
		long := 1
		for inSet(s, from+long) {
			long++
		}
		wanted = append(wanted, api.Turn{Period: p, From: from, Long: long})
	}
	if inSet(s, 0) && len(wanted) == 0 {
		wanted = []api.Turn{{Period: 1, From: 0, Long: 1}}
	}
	f, e := turn.Fewest(s)
	if len(wanted) > api.MaxTurns {
		if e != api.ErrLimit || !empty(f) {
			t.Fatal("fewest", s, f, e)
		}
		return
	}
	if e != api.OK || !sameSet(f, turns(wanted...)) {
		t.Fatal("fewest", s, f, e, wanted)
	}
	if q, e := turn.Period(f); e != api.OK || q != p {
		t.Fatal("period of fewest", s, f, q, e)
	}
}

func TestPeriodEdges(t *testing.T) {
	for _, x := range []struct {
		s, f api.Minutes
		p    int
	}{
		{turns(api.Turn{Period: 6, From: 0, Long: 1}, api.Turn{Period: 6, From: 3, Long: 1}), turns(api.Turn{Period: 3, From: 0, Long: 1}), 3},
		{turns(api.Turn{Period: 4, From: 0, Long: 2}, api.Turn{Period: 4, From: 2, Long: 2}), turns(api.Turn{Period: 1, From: 0, Long: 1}), 1},
		{turns(api.Turn{Period: 40320, From: 7, Long: 40320}), turns(api.Turn{Period: 1, From: 0, Long: 1}), 1},
		{turns(api.Turn{Period: 40320, From: 7, Long: 40319}), turns(api.Turn{Period: 40320, From: 7, Long: 40319}), 40320},
		{turns(api.Turn{Period: 10, From: 8, Long: 5}), turns(api.Turn{Period: 10, From: 8, Long: 5}), 10},
		{turns(api.Turn{Period: 10, From: 0, Long: 3}, api.Turn{Period: 10, From: 8, Long: 2}), turns(api.Turn{Period: 10, From: 8, Long: 5}), 10},
		{turns(api.Turn{Period: 10, From: 9, Long: 1}, api.Turn{Period: 10, From: 4, Long: 2}), turns(api.Turn{Period: 10, From: 4, Long: 2}, api.Turn{Period: 10, From: 9, Long: 1}), 10},
		{turns(api.Turn{Period: 2, From: 0, Long: 1}, api.Turn{Period: 12, From: 0, Long: 1}), turns(api.Turn{Period: 2, From: 0, Long: 1}), 2},
		{turns(api.Turn{Period: 2, From: 1, Long: 1}, api.Turn{Period: 3, From: 0, Long: 1}), turns(api.Turn{Period: 6, From: 3, Long: 1}, api.Turn{Period: 6, From: 5, Long: 3}), 6}, // 5 touches 0
		{turns(api.Turn{Period: 315, From: 4, Long: 1}, api.Turn{Period: 128, From: 0, Long: 128}), turns(api.Turn{Period: 1, From: 0, Long: 1}), 1},
	} {
		if p, e := turn.Period(x.s); e != api.OK || p != x.p {
			t.Error(x.s, p, e)
		}
		if f, e := turn.Fewest(x.s); e != api.OK || !sameSet(f, x.f) {
			t.Error(x.s, f, e)
		}
	}
}

// Just api.MaxTurns turns are few enough, and not one more.
func TestFewestLimit(t *testing.T) {
	s := turns(api.Turn{Period: 4, From: 0, Long: 1}, api.Turn{Period: 92, From: 2, Long: 1}) // 23 of the first, 1 of the second
	checkFewest(t, s, 92)
	if f, e := turn.Fewest(s); e != api.OK || len(f.Turns) != api.MaxTurns {
		t.Error(f, e)
	}
	s.Turns[1].Period = 96
	checkFewest(t, s, 96)
	if f, e := turn.Fewest(s); e != api.ErrLimit || !empty(f) {
		t.Error(f, e)
	}
	if p, e := turn.Period(s); e != api.OK || p != 96 {
		t.Error(p, e)
	}
}

func TestPeriodErrors(t *testing.T) {
	far := turns(api.Turn{Period: 201, From: 0, Long: 1}, api.Turn{Period: 202, From: 0, Long: 1}) // 40602
	long := api.Minutes{}
	for i := range api.MaxTurns {
		long.Turns = append(long.Turns, api.Turn{Period: api.MaxPeriod - i, From: 0, Long: 1})
	}
	bad := badSets()
	bad[api.ErrLimit] = append(bad[api.ErrLimit], far, long, turns(api.Turn{Period: 40320, From: 0, Long: 40320}, api.Turn{Period: 11, From: 0, Long: 11}))
	bad[api.ErrArg] = append(bad[api.ErrArg], api.Minutes{}, spans(api.Span{Lo: 0, Hi: 0}), api.Minutes{Turns: far.Turns, Spans: []api.Span{{Lo: 0, Hi: 0}}},
		api.Minutes{Turns: []api.Turn{{Period: 5, From: 0, Long: 1}}, Spans: []api.Span{{Lo: 0, Hi: api.MaxMinute}}})
	for wanted, l := range bad {
		for _, s := range l {
			if p, e := turn.Period(s); e != wanted || p != 0 {
				t.Error("period", s, p, e)
			}
			if f, e := turn.Fewest(s); e != wanted || !empty(f) {
				t.Error("fewest", s, f, e)
			}
		}
	}
	just := turns(api.Turn{Period: 315, From: 0, Long: 1}, api.Turn{Period: 128, From: 0, Long: 1}) // just api.MaxPeriod
	if p, e := turn.Period(just); e != api.OK || p != api.MaxPeriod {
		t.Error(p, e)
	}
}
