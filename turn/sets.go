package turn

import (
	"cmp"
	"slices"

	"drowner/api"
)

// Union returns the set of the minutes of two sets.
func Union(a, b api.Minutes) (api.Minutes, api.Errno) {
	if e := checkBoth(a, b); e != api.OK {
		return api.Minutes{}, e
	}
	s := api.Minutes{Turns: once(slices.Concat(a.Turns, b.Turns)), Spans: joined(slices.Concat(a.Spans, b.Spans))}
	if e := Check(s); e != api.OK {
		return api.Minutes{}, e
	}
	return s, api.OK
}

// once returns each turn of a list once, in its order.
func once(l []api.Turn) []api.Turn {
	var out []api.Turn
	seen := map[api.Turn]bool{}
	for _, t := range l {
		if !seen[t] {
			seen[t] = true
			out = append(out, t)
		}
	}
	return out
}

// joined returns spans as the fewest ones, in order. They take the memory of the list, which is cleared behind them: nothing of the spans that grew stays there.
func joined(l []api.Span) []api.Span {
	slices.SortFunc(l, func(x, y api.Span) int { return cmp.Compare(x.Lo, y.Lo) })
	n := 0
	for _, x := range l {
		if n > 0 && x.Lo <= l[n-1].Hi+1 {
			l[n-1].Hi = max(l[n-1].Hi, x.Hi)
			continue
		}
		l[n] = x
		n++
	}
	clear(l[n:])
	return l[:n]
}

// Period returns the least period with which a set of turns comes again.
func Period(s api.Minutes) (int, api.Errno) {
	in, e := around(s)
	return len(in), e
}

// Fewest returns the fewest turns with this period that have the same minutes.
func Fewest(s api.Minutes) (api.Minutes, api.Errno) {
	in, e := around(s)
	if e != api.OK {
		return api.Minutes{}, e
	}
	p := len(in)
	if p == 1 { // a set with a turn is not empty: it has all integers
		return api.Minutes{Turns: []api.Turn{{Period: 1, From: 0, Long: 1}}}, api.OK
	}
	var l []api.Turn
	for from := range p {
		if !in[from] || in[(from+p-1)%p] {
			continue
		}
		long := 1
		for in[(from+long)%p] {
			long++
		}
		l = append(l, api.Turn{Period: p, From: from, Long: long})
	}
	if len(l) > api.MaxTurns {
		return api.Minutes{}, api.ErrLimit
	}
	return api.Minutes{Turns: l}, api.OK
}

// around returns, for the integers from 0 on up to where all comes again, whether they are in a set of turns.
func around(s api.Minutes) ([]bool, api.Errno) {
	if e := Check(s); e != api.OK {
		return nil, e
	}
	if len(s.Spans) > 0 || len(s.Turns) == 0 {
		return nil, api.ErrArg
	}
	long := 1
	for _, t := range s.Turns {
		if long = multiple(long, t.Period); long > api.MaxPeriod {
			return nil, api.ErrLimit
		}
	}
	in := make([]bool, long)
	for run := range runs(s, api.Span{Lo: 0, Hi: long - 1}) {
		for at := run.Lo; at <= run.Hi; at++ {
			in[at] = true
		}
	}
	return in[:shortest(in)], api.OK
}

// shortest returns the least length whose repetition makes a list.
func shortest(in []bool) int {
	p := 1
	for len(in)%p != 0 || !slices.Equal(in[p:], in[:len(in)-p]) {
		p++
	}
	return p
}

// Shift returns a set all of whose turns come some minutes later.
func Shift(s api.Minutes, by int) (api.Minutes, api.Errno) {
	if e := Check(s); e != api.OK {
		return api.Minutes{}, e
	}
	if len(s.Spans) > 0 || by < -api.MaxMinute || by > api.MaxMinute {
		return api.Minutes{}, api.ErrArg
	}
	turns := slices.Clone(s.Turns)
	for i, t := range turns {
		turns[i].From = remainder(t.From+by, t.Period)
	}
	return api.Minutes{Turns: turns}, api.OK
}
