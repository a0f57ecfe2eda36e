package turn_test

import (
	"slices"
	"testing"

	"drowner/api"
	"drowner/turn"
)

// P1.6, P1.7 and P1.13

func TestSpans(t *testing.T) {
	r := chance(5)
	for i := range 1500 {
		a, b := anySet(r, 4, 4, 24, 120), anySet(r, 4, 4, 24, 120)
		x := anySpan(r, 40, 100)
		if i%3 == 0 {
			x = api.Span{Lo: api.MaxMinute - r.IntN(90), Hi: api.MaxMinute - r.IntN(5)}
			x.Hi = max(x.Lo, x.Hi)
			b.Spans = append(b.Spans, anySpan(r, api.MaxMinute, 9))
		}
		in := spansOf(x, func(n int) bool { return inSet(a, n) })
		checkList(t, a, x, in, turn.Spans)
		checkList(t, a, x, spansOf(x, func(n int) bool { return !inSet(a, n) }), turn.Rest)
		many := 0
		for _, y := range in {
			many += y.Hi - y.Lo + 1
		}
		if n, e := turn.Count(a, x); e != api.OK || n != many {
			t.Fatal("count", a, x, n, e, many)
		}
		l, e := turn.Common(a, b, x)
		if wanted := spansOf(x, func(n int) bool { return inSet(a, n) && inSet(b, n) }); e != api.OK || !slices.Equal(l, wanted) {
			t.Fatal("common", a, b, x, l, e, wanted)
		}
		first, is := firstOf(x, func(n int) bool { return !inSet(a, n) })
		if n, all, e := turn.Covers(a, x); e != api.OK || n != first || all == is {
			t.Fatal("covers", a, x, n, all, e, first)
		}
	}
}

func checkList(t *testing.T, s api.Minutes, x api.Span, wanted []api.Span, call func(api.Minutes, api.Span) ([]api.Span, api.Errno)) {
	t.Helper()
	if l, e := call(s, x); e != api.OK || !slices.Equal(l, wanted) {
		t.Fatal(s, x, l, e, wanted)
	}
}

func TestSpansEdges(t *testing.T) {
	season := api.Span{Lo: 0, Hi: api.MaxMinute}
	all := turns(api.Turn{Period: 9, From: 4, Long: 9})
	checkList(t, all, season, []api.Span{season}, turn.Spans)
	checkList(t, all, season, nil, turn.Rest)
	checkList(t, api.Minutes{}, season, []api.Span{season}, turn.Rest)
	checkList(t, api.Minutes{}, season, nil, turn.Spans)
	two := turns(api.Turn{Period: 6, From: 0, Long: 3}, api.Turn{Period: 6, From: 3, Long: 3}) // they touch
	checkList(t, two, api.Span{Lo: 5, Hi: 900}, []api.Span{{Lo: 5, Hi: 900}}, turn.Spans)
	checkList(t, spans(api.Span{Lo: 8, Hi: 9}, api.Span{Lo: 3, Hi: 7}, api.Span{Lo: 4, Hi: 4}), season, []api.Span{{Lo: 3, Hi: 9}}, turn.Spans)
	last := spans(api.Span{Lo: api.MaxMinute, Hi: api.MaxMinute})
	checkList(t, last, season, []api.Span{{Lo: api.MaxMinute, Hi: api.MaxMinute}}, turn.Spans)
	checkList(t, last, season, []api.Span{{Lo: 0, Hi: api.MaxMinute - 1}}, turn.Rest)
	for wanted, s := range map[int]api.Minutes{0: {}, 1: last, api.MaxMinute + 1: all, api.MaxMinute / 2: turns(api.Turn{Period: 2, From: 1, Long: 1})} {
		if n, e := turn.Count(s, season); e != api.OK || n != wanted {
			t.Error("count", s, n, e)
		}
	}
	if l, e := turn.Common(all, two, api.Span{Lo: 7, Hi: 7}); e != api.OK || !slices.Equal(l, []api.Span{{Lo: 7, Hi: 7}}) {
		t.Error("common", l, e)
	}
}

// Just api.MaxListed spans are listed, and not one more.
func TestListed(t *testing.T) {
	even, third := turns(api.Turn{Period: 2, From: 0, Long: 1}), turns(api.Turn{Period: 4, From: 0, Long: 3})
	full := api.Span{Lo: 0, Hi: 2*api.MaxListed - 1}
	more := api.Span{Lo: 0, Hi: 2 * api.MaxListed}
	wanted := spansOf(full, func(n int) bool { return n%2 == 0 })
	if len(wanted) != api.MaxListed {
		t.Fatal(len(wanted))
	}
	checkList(t, even, full, wanted, turn.Spans)
	checkList(t, even, full, spansOf(full, func(n int) bool { return n%2 == 1 }), turn.Rest)
	checkList(t, even, more, spansOf(more, func(n int) bool { return n%2 == 1 }), turn.Rest)
	if l, e := turn.Spans(even, more); e != api.ErrLimit || len(l) > 0 {
		t.Error("spans", len(l), e)
	}
	more.Hi++
	if l, e := turn.Rest(even, more); e != api.ErrLimit || len(l) > 0 {
		t.Error("rest", len(l), e)
	}
	if l, e := turn.Common(even, even, full); e != api.OK || !slices.Equal(l, wanted) {
		t.Error("common", len(l), e)
	}
	if l, e := turn.Common(even, third, full); e != api.OK || len(l) != api.MaxListed {
		t.Error("common of other sets", len(l), e)
	}
	if l, e := turn.Common(even, third, more); e != api.ErrLimit || len(l) > 0 {
		t.Error("common", len(l), e)
	}
	if n, e := turn.Count(even, api.Span{Lo: 0, Hi: api.MaxMinute}); e != api.OK || n != api.MaxMinute/2+1 {
		t.Error("count", n, e)
	}
	if n, is, e := turn.Covers(even, more); e != api.OK || is || n != 1 {
		t.Error("covers", n, is, e)
	}
}

func TestCoversEdges(t *testing.T) {
	s := api.Minutes{Turns: []api.Turn{{Period: 10, From: 8, Long: 4}}, Spans: []api.Span{{Lo: 2, Hi: 5}}}
	for _, x := range []struct {
		lo, hi, n int
		is        bool
	}{{0, 5, 0, true}, {0, 6, 6, false}, {6, 8, 6, false}, {8, 11, 0, true}, {7, 7, 7, false}, {3, 3, 0, true}, {0, api.MaxMinute, 6, false}, {5, 9, 6, false}} {
		if n, is, e := turn.Covers(s, api.Span{Lo: x.lo, Hi: x.hi}); e != api.OK || is != x.is || n != x.n {
			t.Error(x, n, is, e)
		}
	}
	// 0 may be the first minute that is not in the set, too.
	if n, is, e := turn.Covers(api.Minutes{}, api.Span{Lo: 0, Hi: 0}); e != api.OK || is || n != 0 {
		t.Error(n, is, e)
	}
}

func TestSame(t *testing.T) {
	r := chance(6)
	same := 0
	for i := range 120 {
		a, b := anySet(r, 2, 2, 6, 20), anySet(r, 2, 2, 6, 20)
		if i%2 == 0 { // the same minutes, said otherwise, but for a span
			b = copied(a)
			slices.Reverse(b.Turns)
			b.Turns = append(b.Turns, a.Turns...)
			b.Spans = append([]api.Span{anySpan(r, 30, 3)}, a.Spans...)
		}
		// With periods up to 6 all comes again behind 60 minutes, and no span lies behind the minute 60.
		first, differ := firstOf(api.Span{Lo: 0, Hi: 200}, func(n int) bool { return inSet(a, n) != inSet(b, n) })
		for _, p := range [][2]api.Minutes{{a, b}, {b, a}} {
			if n, is, e := turn.Same(p[0], p[1]); e != api.OK || is == differ || n != first {
				t.Fatal(p, n, is, e, first, differ)
			}
		}
		if !differ {
			same++
		}
	}
	if same < 10 {
		t.Error("the sets say too little:", same)
	}
}

func TestSameEdges(t *testing.T) {
	all := turns(api.Turn{Period: 1, From: 0, Long: 1})
	for _, x := range []struct {
		a, b api.Minutes
		n    int
		is   bool
	}{
		{api.Minutes{}, api.Minutes{}, 0, true},
		{all, spans(api.Span{Lo: 0, Hi: api.MaxMinute}), 0, true}, // no minute lies behind the last one
		{all, spans(api.Span{Lo: 0, Hi: api.MaxMinute - 1}), api.MaxMinute, false},
		{all, spans(api.Span{Lo: 1, Hi: api.MaxMinute}), 0, false},
		{all, api.Minutes{}, 0, false},
		{all, turns(api.Turn{Period: 40320, From: 17, Long: 40320}), 0, true},
		{spans(api.Span{Lo: api.MaxMinute, Hi: api.MaxMinute}), api.Minutes{}, api.MaxMinute, false},
		{spans(api.Span{Lo: 1, Hi: 4}, api.Span{Lo: 5, Hi: 6}), spans(api.Span{Lo: 3, Hi: 6}, api.Span{Lo: 1, Hi: 3}), 0, true},
		{turns(api.Turn{Period: 40320, From: 40319, Long: 2}), turns(api.Turn{Period: 40320, From: 40319, Long: 1}), 0, false},
		{turns(api.Turn{Period: 3, From: 1, Long: 1}), turns(api.Turn{Period: 6, From: 1, Long: 1}, api.Turn{Period: 6, From: 4, Long: 1}), 0, true},
		{turns(api.Turn{Period: 40320, From: 5, Long: 1}), turns(api.Turn{Period: 40319, From: 5, Long: 1}), 40324, false},
	} {
		for _, p := range [][2]api.Minutes{{x.a, x.b}, {x.b, x.a}} {
			if n, is, e := turn.Same(p[0], p[1]); e != api.OK || is != x.is || n != x.n {
				t.Error(p, n, is, e)
			}
		}
	}
}

func TestSpanErrors(t *testing.T) {
	good := turns(api.Turn{Period: 10, From: 2, Long: 3})
	bad := badSets()
	for _, x := range append(badSpans(), api.Span{Lo: 3, Hi: 4}) {
		if x.Lo != 3 {
			checkSpanErrors(t, good, x, api.ErrArg)
			checkSpanErrors(t, api.Minutes{}, x, api.ErrArg)
			wantList(t, api.ErrArg)(turn.Common(good, good, x))
		}
		for wanted, l := range bad {
			for _, s := range l {
				checkSpanErrors(t, s, x, wanted)
				wantList(t, wanted)(turn.Common(s, good, x))
				wantList(t, wanted)(turn.Common(good, s, x))
			}
		}
	}
}

func checkSpanErrors(t *testing.T, s api.Minutes, x api.Span, wanted api.Errno) {
	t.Helper()
	if n, e := turn.Count(s, x); e != wanted || n != 0 {
		t.Error("count", s, x, n, e)
	}
	wantList(t, wanted)(turn.Spans(s, x))
	wantList(t, wanted)(turn.Rest(s, x))
	if n, is, e := turn.Covers(s, x); e != wanted || n != 0 || is {
		t.Error("covers", s, x, n, is, e)
	}
}

// wantList takes a result that has to be an error.
func wantList(t *testing.T, wanted api.Errno) func([]api.Span, api.Errno) {
	return func(l []api.Span, e api.Errno) {
		t.Helper()
		if e != wanted || len(l) > 0 {
			t.Error(l, e, wanted)
		}
	}
}

// The errors of the first set come before those of the second one.
func TestOrderOfErrors(t *testing.T) {
	limit, arg := tooMany()[0], turns(api.Turn{})
	x := api.Span{Lo: 2, Hi: 1}
	for _, p := range []struct {
		a, b   api.Minutes
		wanted api.Errno
	}{{limit, arg, api.ErrLimit}, {arg, limit, api.ErrArg}, {arg, api.Minutes{}, api.ErrArg}, {api.Minutes{}, limit, api.ErrLimit}} {
		wantList(t, p.wanted)(turn.Common(p.a, p.b, x))
		if n, is, e := turn.Same(p.a, p.b); e != p.wanted || n != 0 || is {
			t.Error("same", p, n, is, e)
		}
		if u, e := turn.Union(p.a, p.b); e != p.wanted || !empty(u) {
			t.Error("union", p, u, e)
		}
	}
}

// Sets whose turns come often, in an order that does not help, are told in good time.
func TestManyRuns(t *testing.T) {
	season := api.Span{Lo: 0, Hi: api.MaxMinute}
	var a, b api.Minutes
	for i := range api.MaxTurns {
		a.Turns = append(a.Turns, api.Turn{Period: 24, From: 23 - i, Long: 1})
		b.Turns = append(b.Turns, api.Turn{Period: 2, From: 1, Long: 1})
	}
	for i := range api.MaxSingle {
		a.Spans = append(a.Spans, api.Span{Lo: i, Hi: i})
		b.Spans = append(b.Spans, api.Span{Lo: 2 * i, Hi: 2 * i})
	}
	if n, is, e := turn.Covers(a, season); e != api.OK || !is || n != 0 {
		t.Error(n, is, e)
	}
	if n, e := turn.Count(b, season); e != api.OK || n != api.MaxMinute/2+api.MaxSingle {
		t.Error(n, e)
	}
	if n, is, e := turn.Same(b, a); e != api.OK || is || n != 2*api.MaxSingle {
		t.Error(n, is, e)
	}
	c := turns(api.Turn{Period: 2, From: 0, Long: 1})
	c.Spans = []api.Span{{Lo: api.MaxMinute - 1, Hi: api.MaxMinute}}
	if l, e := turn.Common(turns(b.Turns...), c, season); e != api.OK || !slices.Equal(l, []api.Span{{Lo: api.MaxMinute - 1, Hi: api.MaxMinute - 1}}) {
		t.Error(l, e)
	}
}
