package turn_test

import (
	"slices"
	"testing"

	"drowner/api"
	"drowner/turn"
)

// P1.1

func TestCheckTurn(t *testing.T) {
	for _, x := range badTurns() {
		if e := turn.CheckTurn(x); e != api.ErrArg {
			t.Error(x, e)
		}
	}
	for _, x := range []api.Turn{
		{Period: 1, From: 0, Long: 1}, {Period: 2, From: 1, Long: 2}, {Period: 10, From: 9, Long: 10}, {Period: 10, From: 0, Long: 1},
		{Period: api.MaxPeriod, From: api.MaxPeriod - 1, Long: api.MaxPeriod}, {Period: api.MaxPeriod, From: 0, Long: 1},
	} {
		if e := turn.CheckTurn(x); e != api.OK {
			t.Error(x, e)
		}
	}
}

func TestCheck(t *testing.T) {
	for wanted, l := range badSets() {
		for _, s := range l {
			if e := turn.Check(s); e != wanted {
				t.Error(s, e, wanted)
			}
		}
	}
	full := api.Minutes{
		Turns: slices.Repeat([]api.Turn{{Period: 5, From: 4, Long: 5}}, api.MaxTurns),
		Spans: slices.Repeat([]api.Span{{Lo: 0, Hi: api.MaxMinute}}, api.MaxSingle),
	}
	for _, s := range []api.Minutes{{}, {Turns: []api.Turn{}, Spans: []api.Span{}}, full, spans(api.Span{Lo: 7, Hi: 7}), spans(api.Span{Lo: api.MaxMinute, Hi: api.MaxMinute})} {
		if e := turn.Check(s); e != api.OK {
			t.Error(s, e)
		}
	}
	for _, x := range badTurns() {
		full.Turns[api.MaxTurns-1] = x
		if e := turn.Check(full); e != api.ErrArg {
			t.Error("the last turn", x, e)
		}
	}
}

func TestHolds(t *testing.T) {
	r := chance(1)
	for range 300 {
		s := anySet(r, 3, 3, 30, 100)
		for n := range 130 {
			if is, e := turn.Holds(s, n); e != api.OK || is != inSet(s, n) {
				t.Fatal(s, n, is, e)
			}
		}
		for n := api.MaxMinute - 70; n <= api.MaxMinute; n++ {
			if is, e := turn.Holds(s, n); e != api.OK || is != inSet(s, n) {
				t.Fatal(s, n, is, e)
			}
		}
	}
}

// A turn whose From + Long is greater than its Period begins ahead of 0.
func TestHoldsAround(t *testing.T) {
	s := turns(api.Turn{Period: 10, From: 8, Long: 5})
	for n, wanted := range []bool{true, true, true, false, false, false, false, false, true, true, true, true, true, false} {
		if is, e := turn.Holds(s, n); e != api.OK || is != wanted {
			t.Error(n, is, e)
		}
	}
	for _, n := range []int{0, 1, 500, api.MaxMinute} {
		if is, e := turn.Holds(turns(api.Turn{Period: 7, From: 3, Long: 7}), n); e != api.OK || !is {
			t.Error("all minutes", n, is, e)
		}
		if is, e := turn.Holds(api.Minutes{}, n); e != api.OK || is {
			t.Error("no minutes", n, is, e)
		}
	}
}

// P1.2 and P1.11

func TestNextLast(t *testing.T) {
	r := chance(2)
	for range 400 {
		s := anySet(r, 2, 3, 25, 60)
		checkNextLast(t, s, api.Span{Lo: 0, Hi: 110})
		if len(s.Turns) > 0 { // otherwise the last minute is far away
			checkNextLast(t, s, api.Span{Lo: api.MaxMinute - 60, Hi: api.MaxMinute})
		}
	}
}

// checkNextLast looks for the nearest minutes of a set one by one, in both directions.
func checkNextLast(t *testing.T, s api.Minutes, x api.Span) {
	t.Helper()
	for n := x.Lo; n <= x.Hi; n++ {
		wanted := -1
		if m, is := firstOf(api.Span{Lo: n, Hi: min(n+200, api.MaxMinute)}, func(m int) bool { return inSet(s, m) }); is {
			wanted = m
		}
		checkOne(t, "next", s, n, wanted, turn.Next)
		wanted = -1
		if back, is := firstOf(api.Span{Lo: 0, Hi: min(n, 200)}, func(m int) bool { return inSet(s, n-m) }); is {
			wanted = n - back
		}
		checkOne(t, "last", s, n, wanted, turn.Last)
	}
}

func TestNextLastEdges(t *testing.T) {
	far := turns(api.Turn{Period: api.MaxPeriod, From: 100, Long: 2})
	before := (api.MaxMinute-100)/api.MaxPeriod*api.MaxPeriod + 100
	for _, x := range []struct {
		s    api.Minutes
		n    int
		next int
		last int
	}{
		{far, 0, 100, -1}, {far, 99, 100, -1}, {far, 100, 100, 100}, {far, 101, 101, 101}, {far, 102, 100 + api.MaxPeriod, 101},
		{far, api.MaxMinute, -1, before + 1}, {far, before + 2, -1, before + 1}, {far, before + 1, before + 1, before + 1},
		{spans(api.Span{Lo: api.MaxMinute, Hi: api.MaxMinute}), 0, api.MaxMinute, -1},
		{spans(api.Span{Lo: api.MaxMinute, Hi: api.MaxMinute}), api.MaxMinute, api.MaxMinute, api.MaxMinute},
		{spans(api.Span{Lo: 0, Hi: 0}), api.MaxMinute, -1, 0},
		{spans(api.Span{Lo: 5, Hi: 9}, api.Span{Lo: 0, Hi: 2}), 3, 5, 2},
		{spans(api.Span{Lo: 5, Hi: 9}, api.Span{Lo: 0, Hi: 12}), 11, 11, 11},
		{turns(api.Turn{Period: 10, From: 8, Long: 5}), 0, 0, 0},
		{turns(api.Turn{Period: 10, From: 8, Long: 5}), 5, 8, 2},
		{api.Minutes{}, 0, -1, -1}, {api.Minutes{}, api.MaxMinute, -1, -1},
	} {
		checkOne(t, "next", x.s, x.n, x.next, turn.Next)
		checkOne(t, "last", x.s, x.n, x.last, turn.Last)
	}
}

// checkOne checks a call that returns a minute, or ErrNone if it is -1.
func checkOne(t *testing.T, what string, s api.Minutes, n, wanted int, call func(api.Minutes, int) (int, api.Errno)) {
	t.Helper()
	m, e := call(s, n)
	if wanted < 0 && (m != 0 || e != api.ErrNone) || wanted >= 0 && (m != wanted || e != api.OK) {
		t.Error(what, s, n, m, e, wanted)
	}
}

func TestMinuteErrors(t *testing.T) {
	good := turns(api.Turn{Period: 10, From: 2, Long: 3})
	bad := badSets()
	for _, n := range badMinutes() {
		checkMinuteErrors(t, good, n, api.ErrArg)
		checkMinuteErrors(t, api.Minutes{}, n, api.ErrArg)
		for wanted, l := range bad {
			for _, s := range l {
				checkMinuteErrors(t, s, n, wanted)
				checkMinuteErrors(t, s, 3, wanted)
			}
		}
	}
}

func checkMinuteErrors(t *testing.T, s api.Minutes, n int, wanted api.Errno) {
	t.Helper()
	if is, e := turn.Holds(s, n); e != wanted || is {
		t.Error("holds", s, n, is, e)
	}
	if m, e := turn.Next(s, n); e != wanted || m != 0 {
		t.Error("next", s, n, m, e)
	}
	if m, e := turn.Last(s, n); e != wanted || m != 0 {
		t.Error("last", s, n, m, e)
	}
}
