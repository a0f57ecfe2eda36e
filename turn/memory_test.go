package turn_test

import (
	"slices"
	"testing"

	"drowner/api"
	"drowner/turn"
)

// Arguments are neither modified nor kept, and results are new memory (R6).

// set returns a set in which there is much to sort and to join, with room behind its lists.
func set() api.Minutes {
	s := api.Minutes{Turns: make([]api.Turn, 0, 30), Spans: make([]api.Span, 0, 30)}
	s.Turns = append(s.Turns, api.Turn{Period: 12, From: 11, Long: 3}, api.Turn{Period: 8, From: 1, Long: 1}, api.Turn{Period: 12, From: 11, Long: 3})
	s.Spans = append(s.Spans, api.Span{Lo: 50, Hi: 52}, api.Span{Lo: 7, Hi: 9}, api.Span{Lo: 10, Hi: 11})
	return s
}

func TestArgumentsStay(t *testing.T) {
	a, b, only := set(), set(), set()
	only.Spans = nil
	x := api.Span{Lo: 3, Hi: 200}
	turn.Check(a)
	turn.Holds(a, 7)
	turn.Next(a, 7)
	turn.Last(a, 7)
	turn.Count(a, x)
	turn.Spans(a, x)
	turn.Rest(a, x)
	turn.Common(a, b, x)
	turn.Union(a, b)
	turn.Covers(a, x)
	turn.Same(a, b)
	turn.Period(only)
	turn.Fewest(only)
	turn.Shift(only, 5)
	turn.Print(a)
	for _, s := range []api.Minutes{a, b} {
		if !sameSet(s, set()) {
			t.Error(s)
		}
	}
	if !slices.Equal(only.Turns, set().Turns) {
		t.Error(only)
	}
	for _, s := range []api.Minutes{a, b, only} {
		if behind := s.Turns[:cap(s.Turns)][len(s.Turns):]; slices.ContainsFunc(behind, func(x api.Turn) bool { return x != api.Turn{} }) {
			t.Error("behind the turns", behind)
		}
		if behind := s.Spans[:cap(s.Spans)][len(s.Spans):]; slices.ContainsFunc(behind, func(x api.Span) bool { return x != api.Span{} }) {
			t.Error("behind the spans", behind)
		}
	}
}

func TestResultsAreNew(t *testing.T) {
	a := api.Minutes{Turns: []api.Turn{{Period: 12, From: 11, Long: 3}}, Spans: []api.Span{{Lo: 5, Hi: 6}}}
	only := turns(a.Turns...)
	results := func() []api.Minutes {
		one, _ := turn.Union(a, api.Minutes{})
		two, _ := turn.Union(api.Minutes{}, a)
		three, _ := turn.Shift(only, 0)
		four, _ := turn.Fewest(only)
		return []api.Minutes{one, two, three, four}
	}
	for _, s := range results() {
		for i := range s.Turns {
			s.Turns[i] = api.Turn{}
		}
		for i := range s.Spans {
			s.Spans[i] = api.Span{}
		}
	}
	for i, s := range results() {
		if i < 2 && !sameSet(s, a) || i >= 2 && !sameSet(s, only) || len(s.Turns) != 1 {
			t.Error(i, s)
		}
	}
	x := api.Span{Lo: 5, Hi: 6}
	l, _ := turn.Spans(a, x)
	m, _ := turn.Common(a, a, x)
	l[0], m[0] = api.Span{}, api.Span{}
	if a.Spans[0] != x {
		t.Error(a)
	}
}
