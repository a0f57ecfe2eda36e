package turn

import "drowner/api"

// never is greater than every integer that is looked at: a run there is one that does not come.
const never = 1 << 40

// lot is what a set is made of: a turn or a single span. Its integers come in runs.
type lot interface {
	// from returns the first run that ends at an integer or behind it; it begins at never if there is none.
	from(at int) api.Span
	// upTo returns the last run that begins at an integer or ahead of it; it ends at -never if there is none.
	upTo(at int) api.Span
}

// cycle is a turn as a lot. Its runs go on in both directions, beyond the minutes, too.
type cycle api.Turn

func (c cycle) upTo(at int) api.Span {
	lo := at - remainder(at-c.From, c.Period)
	return api.Span{Lo: lo, Hi: lo + c.Long - 1}
}

func (c cycle) from(at int) api.Span {
	x := c.upTo(at)
	if x.Hi < at {
		x.Lo += c.Period
		x.Hi += c.Period
	}
	return x
}

// single is a span as a lot: its only run.
type single api.Span

func (x single) upTo(at int) api.Span {
	if at < x.Lo {
		return api.Span{Lo: -never, Hi: -never}
	}
	return api.Span(x)
}

func (x single) from(at int) api.Span {
	if at > x.Hi {
		return api.Span{Lo: never, Hi: never}
	}
	return api.Span(x)
}

// lots returns what a set is made of.
func lots(s api.Minutes) []lot {
	l := make([]lot, 0, len(s.Turns)+len(s.Spans))
	for _, t := range s.Turns {
		l = append(l, cycle(t))
	}
	for _, x := range s.Spans {
		l = append(l, single(x))
	}
	return l
}

// remainder returns the remainder of a number, which is 0 or more.
func remainder(n, by int) int {
	r := n % by
	if r < 0 {
		r += by
	}
	return r
}
