package turn_test

import (
	"math/rand/v2"
	"slices"
	"testing"

	"drowner/api"
)

// The tests compare the package with what the chapter's definitions say, looked up minute by minute.

// chance returns numbers that are the same in each run.
func chance(seed uint64) *rand.Rand { return rand.New(rand.NewPCG(seed, 17)) }

// inTurn is the definition of a turn.
func inTurn(t api.Turn, n int) bool {
	r := (n - t.From) % t.Period
	if r < 0 {
		r += t.Period
	}
	return r < t.Long
}

// inSet is the definition of a set.
func inSet(s api.Minutes, n int) bool {
	for _, t := range s.Turns {
		if inTurn(t, n) {
			return true
		}
	}
	for _, x := range s.Spans {
		if x.Lo <= n && n <= x.Hi {
			return true
		}
	}
	return false
}

// spansOf returns the numbers of a span with which something is so, as the fewest spans.
func spansOf(x api.Span, is func(n int) bool) []api.Span {
	var l []api.Span
	for n := x.Lo; n <= x.Hi; n++ {
		if !is(n) {
			continue
		}
		if k := len(l); k > 0 && l[k-1].Hi == n-1 {
			l[k-1].Hi = n
		} else {
			l = append(l, api.Span{Lo: n, Hi: n})
		}
	}
	return l
}

// firstOf returns the first number of a span with which something is so.
func firstOf(x api.Span, is func(n int) bool) (int, bool) {
	for n := x.Lo; n <= x.Hi; n++ {
		if is(n) {
			return n, true
		}
	}
	return 0, false
}

func anyTurn(r *rand.Rand, most int) api.Turn {
	p := 1 + r.IntN(most)
	long := 1 + r.IntN(p)
	if r.IntN(2) == 0 {
		long = 1 + r.IntN((p+2)/3)
	}
	return api.Turn{Period: p, From: r.IntN(p), Long: long}
}

func anySpan(r *rand.Rand, most, long int) api.Span {
	lo := r.IntN(most + 1)
	return api.Span{Lo: lo, Hi: min(api.MaxMinute, lo+r.IntN(long))}
}

// anySet returns a set with some turns and spans, whose spans begin at most at `most`.
func anySet(r *rand.Rand, turns, spans, period, most int) api.Minutes {
	var s api.Minutes
	for range r.IntN(turns + 1) {
		s.Turns = append(s.Turns, anyTurn(r, period))
	}
	for range r.IntN(spans + 1) {
		s.Spans = append(s.Spans, anySpan(r, most, 8))
	}
	return s
}

func turns(l ...api.Turn) api.Minutes { return api.Minutes{Turns: l} }

func spans(l ...api.Span) api.Minutes { return api.Minutes{Spans: l} }

// sameSet reports whether two sets have equal turns and spans, in the same order.
func sameSet(a, b api.Minutes) bool {
	return slices.Equal(a.Turns, b.Turns) && slices.Equal(a.Spans, b.Spans)
}

// empty reports whether a set is the zero value.
func empty(s api.Minutes) bool { return len(s.Turns)+len(s.Spans) == 0 }

func copied(s api.Minutes) api.Minutes {
	return api.Minutes{Turns: slices.Clone(s.Turns), Spans: slices.Clone(s.Spans)}
}

// badTurns returns turns that are not valid.
func badTurns() []api.Turn {
	return []api.Turn{
		{}, {Period: 0, From: 0, Long: 1}, {Period: -1, From: 0, Long: 1}, {Period: api.MaxPeriod + 1, From: 0, Long: 1},
		{Period: 10, From: -1, Long: 1}, {Period: 10, From: 10, Long: 1}, {Period: 10, From: 11, Long: 1},
		{Period: 10, From: 0, Long: 0}, {Period: 10, From: 0, Long: -1}, {Period: 10, From: 0, Long: 11},
		{Period: 1 << 62, From: 1, Long: 1}, {Period: 5, From: 1 << 62, Long: 1}, {Period: 5, From: 1, Long: 1 << 62},
		{Period: -1 << 63, From: -1 << 63, Long: -1 << 63},
	}
}

// badSpans returns spans that are none of minutes.
func badSpans() []api.Span {
	return []api.Span{
		{Lo: 1, Hi: 0}, {Lo: -1, Hi: 0}, {Lo: -2, Hi: -1}, {Lo: 0, Hi: api.MaxMinute + 1}, {Lo: api.MaxMinute + 1, Hi: api.MaxMinute + 1},
		{Lo: 0, Hi: -1}, {Lo: -1 << 63, Hi: 1<<63 - 1}, {Lo: api.MaxMinute, Hi: api.MaxMinute - 1},
	}
}

// badMinutes returns numbers that are no minutes.
func badMinutes() []int {
	return []int{-1, api.MaxMinute + 1, -1 << 63, 1<<63 - 1}
}

// tooMany returns sets with one turn, or one span, too many; the second of each two has a bad element, too.
func tooMany() []api.Minutes {
	a := api.Minutes{Turns: slices.Repeat([]api.Turn{{Period: 5, From: 0, Long: 1}}, api.MaxTurns+1)}
	b := api.Minutes{Spans: slices.Repeat([]api.Span{{Lo: 3, Hi: 4}}, api.MaxSingle+1)}
	return []api.Minutes{
		a, {Turns: append(slices.Clone(a.Turns), api.Turn{}), Spans: badSpans()[:1]},
		b, {Turns: badTurns()[:1], Spans: append(slices.Clone(b.Spans), badSpans()[0])},
	}
}

// badSets returns sets with the error that Check returns for them.
func badSets() map[api.Errno][]api.Minutes {
	bad := map[api.Errno][]api.Minutes{api.ErrLimit: tooMany()}
	for _, t := range badTurns() {
		bad[api.ErrArg] = append(bad[api.ErrArg], turns(api.Turn{Period: 5, From: 0, Long: 1}, t))
	}
	for _, x := range badSpans() {
		bad[api.ErrArg] = append(bad[api.ErrArg], spans(api.Span{Lo: 0, Hi: api.MaxMinute}, x))
	}
	return bad
}

// want fails a test unless an error is as it should be.
func want(t *testing.T, what string, got, wanted api.Errno) {
	t.Helper()
	if got != wanted {
		t.Errorf("%s: error %d, not %d", what, got, wanted)
	}
}
