package flood_test

import (
	"slices"
	"testing"

	"drowner/api"
	"drowner/flood"
)

// P4.9, P4.10: the chapter's examples, and some of the tests' own.
func TestBacklogExamples(t *testing.T) {
	for i, x := range []struct {
		l, s     api.Curve
		n, delay int
	}{
		{limit(), service(), 5, 3},
		{limit(), limit(), 0, 0},
		{limit(), flat(4, 100), 0, 0},
		{limit(), flat(4, 0), 8, 4},
		{curve(0, 4, 9, 9, 20), flat(4, 0), 13, 4}, // closed, the limit is less
		{curve(3), curve(0), 0, 0},                 // at the step 0 nothing has passed
		{curve(3, 4), curve(0, 0), 4, 1},
		{curve(0, 1), curve(0, 0), 1, 1},
		{curve(0, 0, 5), curve(0, 0, 0), 0, 0}, // nothing in each step is nothing in two
		{curve(0, 5, 5), curve(0, 5, 5), 0, 0},
		{curve(0, 5, 5, 5), curve(0, 0, 4, 5), 5, 2},
		{flat(120, api.MaxVolume), flat(120, 0), api.MaxVolume, 120},
	} {
		n, s, e := flood.Backlog(x.l, x.s)
		if n != x.n || e != api.OK || flood.CheckBacklog(x.l, x.s, n, s) != api.OK {
			t.Error("Backlog", i, n, s, e)
		}
		d, e := flood.Delay(x.l, x.s)
		if d != x.delay || e != api.OK {
			t.Error("Delay", i, d, e)
		}
	}
}

// isSurge reports whether a course shows that so much can lie in a reach.
func isSurge(l, service api.Curve, most int, s api.Surge) bool {
	if !isCurve(s.In) || !isCurve(s.Out) || len(s.In.V) != len(l.V) || len(s.Out.V) != len(l.V) || s.Step < 0 || s.Step >= len(l.V) {
		return false
	}
	_, so := serves(s.In, s.Out, service)
	return so && obeys(s.In, l) && s.In.V[0] == 0 && s.In.V[s.Step]-s.Out.V[s.Step] == most
}

// P4.9, P4.10, P4.16: what lies in a reach, and how long it waits, for all courses that obey a limit, and all that flows on.
func TestBoundsAgainstAllCourses(t *testing.T) {
	for _, l := range small() {
		for _, m := range l {
			for _, service := range l {
				most, longest := 0, 0
				eachPassage(l, m, service, func(in, out api.Curve) {
					n, _, e := flood.Stored(in, out)
					w, f := flood.Waited(in, out)
					if e != api.OK || f != api.OK {
						t.Fatal(in, out, e, f)
					}
					most, longest = max(most, n), max(longest, w)
				})
				n, s, e := flood.Backlog(m, service)
				if e != api.OK || n != most || !isSurge(m, service, n, s) {
					t.Fatal("Backlog", m, service, n, most, s, e)
				}
				want(t, "CheckBacklog", flood.CheckBacklog(m, service, n, s), api.OK)
				d, e := flood.Delay(m, service)
				if e != api.OK || d != longest {
					t.Fatal("Delay", m, service, d, longest, e)
				}
			}
		}
	}
}

// P4.9, P4.10: by the definitions, for limits that are long or great.
func TestBoundsByDefinition(t *testing.T) {
	r := chance(12)
	for i := range 300 {
		last, top := r.IntN(12), 60
		if i%3 == 0 {
			top = api.MaxVolume
		}
		m, service := anyCurve(r, last, top), anyCurve(r, last, 1+r.IntN(top))
		c := closeOf(m)
		n, s, e := flood.Backlog(m, service)
		most, _ := widest(c, service)
		if e != api.OK || n != max(most, 0) || !isSurge(m, service, n, s) || flood.CheckBacklog(m, service, n, s) != api.OK {
			t.Error("Backlog", m, service, n, s, e)
		}
		d, e := flood.Delay(m, service)
		if e != api.OK || d != waitOf(c, service) {
			t.Error("Delay", m, service, d, e)
		}
	}
	for range 60 {
		m, service := anyCurve(r, 120, 500), anyCurve(r, 120, 500)
		c, _ := flood.Close(m)
		n, s, e := flood.Backlog(m, service)
		most, _ := widest(c, service)
		if e != api.OK || n != max(most, 0) || !isSurge(m, service, n, s) {
			t.Error("Backlog", m, service, n, s, e)
		}
		d, e := flood.Delay(m, service)
		if e != api.OK || d != waitOf(c, service) {
			t.Error("Delay", m, service, d, e)
		}
	}
}

// P4.16: with a greater limit, or a lesser service, they are not less.
func TestBoundsGrow(t *testing.T) {
	for _, l := range small() {
		for _, m := range l {
			for _, service := range l {
				n, _, _ := flood.Backlog(m, service)
				d, _ := flood.Delay(m, service)
				for _, x := range l {
					if isUnder(m, x) {
						more, _, _ := flood.Backlog(x, service)
						longer, _ := flood.Delay(x, service)
						if more < n || longer < d {
							t.Fatal("a greater limit", m, x, service)
						}
					}
					if isUnder(x, service) {
						more, _, _ := flood.Backlog(m, x)
						longer, _ := flood.Delay(m, x)
						if more < n || longer < d {
							t.Fatal("a lesser service", m, service, x)
						}
					}
				}
			}
		}
	}
}

// P4.9: each part of what shows a backlog has to be right; it may show less than the most.
func TestCheckBacklog(t *testing.T) {
	far, low := 1<<63-1, -1<<63
	surge := func(in, out api.Curve, step int) api.Surge { return api.Surge{In: in, Out: out, Step: step} }
	for i, x := range []struct {
		most int
		s    api.Surge
		e    api.Errno
	}{
		{5, surge(limit(), service(), 2), api.OK},
		{4, surge(limit(), service(), 1), api.OK},
		{4, surge(limit(), service(), 3), api.OK},
		{2, surge(limit(), service(), 4), api.OK},
		{0, surge(limit(), service(), 0), api.OK},
		{0, surge(flat(4, 0), flat(4, 0), 3), api.OK},
		{4, surge(course(), service(), 2), api.OK},
		{3, surge(course(), curve(0, 0, 2, 3, 6), 2), api.OK},
		{5, surge(limit(), curve(0, 0, 1, 6, 8), 2), api.OK},
		{6, surge(limit(), service(), 2), api.ErrProof},
		{4, surge(limit(), service(), 2), api.ErrProof},
		{-5, surge(limit(), service(), 2), api.ErrProof},
		{0, surge(limit(), service(), 2), api.ErrProof},
		{5, surge(limit(), service(), 3), api.ErrProof},
		{5, surge(limit(), service(), -1), api.ErrProof},
		{5, surge(limit(), service(), 5), api.ErrProof},
		{5, surge(limit(), service(), far), api.ErrProof},
		{5, surge(limit(), service(), low), api.ErrProof},
		{6, surge(curve(0, 4, 7, 7, 8), service(), 2), api.ErrProof},                  // does not obey
		{5, surge(curve(0, 0, 6, 6, 6), service(), 2), api.ErrProof},                  // does not obey, later
		{6, surge(limit(), curve(0, 0, 0, 3, 6), 2), api.ErrProof},                    // too little flows on
		{5, surge(limit(), curve(0, 0, 1, 3, 5), 2), api.ErrProof},                    // too little flows on, later
		{5, surge(limit(), curve(0, 0, 1, 3, 9), 2), api.ErrProof},                    // too much flows on, later
		{5, surge(curve(1, 5, 7, 8, 9), curve(1, 1, 2, 4, 7), 2), api.ErrProof},       // something has passed at the step 0
		{5, surge(curve(0, 4, 6, 7), curve(0, 0, 1, 3), 2), api.ErrProof},             // too short
		{5, surge(limit(), curve(0, 0, 1, 3), 2), api.ErrProof},                       // one of them
		{5, surge(curve(0, 4, 6, 7), service(), 2), api.ErrProof},                     // the other one
		{5, surge(curve(0, 4, 6, 7, 8, 8), curve(0, 0, 1, 3, 6, 6), 2), api.ErrProof}, // too long
		{5, surge(curve(0, 4, 6, 7, 6), service(), 2), api.ErrProof},                  // no curve
		{5, surge(limit(), curve(0, 0, 1, 3, 2), 2), api.ErrProof},                    // no curve
		{5, surge(limit(), curve(-1, 0, 1, 3, 6), 2), api.ErrProof},                   // no curve
		{0, surge(api.Curve{}, api.Curve{}, 0), api.ErrProof},
		{5, api.Surge{In: limit(), Step: 2}, api.ErrProof},
		{5, api.Surge{Out: service(), Step: 2}, api.ErrProof},
	} {
		if e := flood.CheckBacklog(limit(), service(), x.most, x.s); e != x.e {
			t.Error(i, x, e)
		}
	}
}

// P4.9: all courses and all that flows on, at all steps.
func TestCheckBacklogAgainstDefinition(t *testing.T) {
	r := chance(13)
	yes := 0
	for _, l := range small() {
		for range 20000 {
			m, service := l[r.IntN(len(l))], l[r.IntN(len(l))]
			s := api.Surge{In: l[r.IntN(len(l))], Out: l[r.IntN(len(l))], Step: r.IntN(len(m.V)+2) - 1}
			most := r.IntN(4) - 1
			if s.Step >= 0 && s.Step < len(m.V) && r.IntN(2) == 0 {
				most = s.In.V[s.Step] - s.Out.V[s.Step]
			}
			e := api.ErrProof
			if isSurge(m, service, most, s) {
				yes, e = yes+1, api.OK
			}
			if got := flood.CheckBacklog(m, service, most, s); got != e {
				t.Fatal(m, service, most, s, got)
			}
		}
	}
	if yes < 300 {
		t.Error("too few are right:", yes)
	}
}

func staff(step, lo, hi int) api.Staff { return api.Staff{Step: step, At: span(lo, hi)} }

// P4.11: the chapter's example, and some of the tests' own.
func TestBetweenExamples(t *testing.T) {
	full := api.MaxVolume
	for i, x := range []struct {
		l         []api.Staff
		last      int
		low, high api.Curve
	}{
		{[]api.Staff{staff(2, 3, 5), staff(3, 1, 4)}, 4, curve(0, 0, 3, 3, 3), curve(4, 4, 4, 4, full)},
		{[]api.Staff{staff(3, 1, 4), staff(2, 3, 5)}, 4, curve(0, 0, 3, 3, 3), curve(4, 4, 4, 4, full)},
		{nil, 2, curve(0, 0, 0), curve(full, full, full)},
		{[]api.Staff{}, 0, curve(0), curve(full)},
		{nil, 120, flat(120, 0), flat(120, full)},
		{[]api.Staff{staff(0, 7, 7)}, 0, curve(7), curve(7)},
		{[]api.Staff{staff(0, 7, 7), staff(2, 9, 9)}, 2, curve(7, 7, 9), curve(9-2, 9, 9)},
		{[]api.Staff{staff(1, 0, full), staff(1, 5, full), staff(1, 0, 6)}, 2, curve(0, 5, 5), curve(6, 6, full)},
		{[]api.Staff{staff(0, full, full)}, 1, curve(full, full), curve(full, full)},
		{slices.Repeat([]api.Staff{staff(1, 2, 3)}, 60), 1, curve(0, 2), curve(3, 3)},
	} {
		low, high, e := flood.Between(x.l, x.last)
		if e != api.OK || !same(low, x.low) || !same(high, x.high) {
			t.Error(i, low, high, e)
		}
	}
}

// liesIn reports whether a course lies in the spans of all readings.
func liesIn(a api.Curve, l []api.Staff) bool {
	for _, x := range l {
		if n := a.V[x.Step]; n < x.At.Lo || n > x.At.Hi {
			return false
		}
	}
	return true
}

// P4.11, P4.18: a course that lies in the spans lies between both, which do so, too; where there is none, readings clash.
func TestBetweenAgainstAllCourses(t *testing.T) {
	r := chance(14)
	clashes := 0
	for last, all := range small() {
		for range 1500 {
			var l []api.Staff
			for range r.IntN(5) {
				lo := r.IntN(4)
				l = append(l, staff(r.IntN(last+1), lo, lo+r.IntN(4-lo)))
			}
			low, high, e := flood.Between(l, last)
			if !slices.ContainsFunc(all, func(a api.Curve) bool { return liesIn(a, l) }) {
				clashes++
				if e != api.ErrClash || len(low.V)+len(high.V) > 0 {
					t.Fatal(l, low, high, e)
				}
				continue
			}
			if e != api.OK || !isCurve(low) || !isCurve(high) || len(low.V) != last+1 || len(high.V) != last+1 || !liesIn(low, l) || !liesIn(high, l) {
				t.Fatal(l, low, high, e)
			}
			for _, a := range all {
				if liesIn(a, l) && (!isUnder(low, a) || !isUnder(a, high)) {
					t.Fatal(l, low, high, a)
				}
			}
		}
	}
	if clashes < 300 {
		t.Error("too few clash:", clashes)
	}
}

// P4.18: the spans around a course that is true do not clash, and it lies between both.
func TestBetweenTrueCourses(t *testing.T) {
	r := chance(15)
	for range 200 {
		last := r.IntN(121)
		a := anyCurve(r, last, api.MaxVolume)
		var l []api.Staff
		for range r.IntN(api.MaxStaffs + 1) {
			at := r.IntN(last + 1)
			l = append(l, staff(at, max(a.V[at]-r.IntN(1<<28), 0), min(a.V[at]+r.IntN(1<<28), api.MaxVolume)))
		}
		low, high, e := flood.Between(l, last)
		if e != api.OK || !isUnder(low, a) || !isUnder(a, high) || !liesIn(low, l) || !liesIn(high, l) || !isCurve(low) || !isCurve(high) {
			t.Error(l, a, low, high, e)
		}
	}
}

// P4.11: the errors of readings, in their order.
func TestBetweenErrors(t *testing.T) {
	far, low := 1<<63-1, -1<<63
	full := api.MaxVolume
	many := func(n int, x api.Staff) []api.Staff { return slices.Repeat([]api.Staff{x}, n) }
	clash := []api.Staff{staff(2, 5, 5), staff(3, 1, 4)}
	for i, x := range []struct {
		l    []api.Staff
		last int
		e    api.Errno
	}{
		{many(60, staff(1, 2, 3)), 4, api.OK}, {many(61, staff(1, 2, 3)), 4, api.ErrLimit}, {many(61, staff(9, 3, 2)), 4, api.ErrLimit}, {many(61, staff(1, 2, 3)), -1, api.ErrLimit}, {many(61, staff(1, 2, 3)), 121, api.ErrLimit},
		{nil, -1, api.ErrArg}, {nil, 121, api.ErrArg}, {nil, far, api.ErrArg}, {nil, low, api.ErrArg}, {nil, 0, api.OK}, {nil, 120, api.OK},
		{many(1, staff(-1, 2, 3)), 4, api.ErrArg}, {many(1, staff(5, 2, 3)), 4, api.ErrArg}, {many(1, staff(4, 2, 3)), 4, api.OK}, {many(1, staff(0, 2, 3)), 4, api.OK}, {many(1, staff(far, 2, 3)), 4, api.ErrArg}, {many(1, staff(low, 2, 3)), 4, api.ErrArg}, {many(1, staff(121, 2, 3)), 120, api.ErrArg},
		{many(1, staff(1, 3, 2)), 4, api.ErrArg}, {many(1, staff(1, -1, 2)), 4, api.ErrArg}, {many(1, staff(1, -2, -1)), 4, api.ErrArg}, {many(1, staff(1, 0, full+1)), 4, api.ErrArg}, {many(1, staff(1, full+1, full+1)), 4, api.ErrArg}, {many(1, staff(1, low, far)), 4, api.ErrArg}, {many(1, staff(1, 0, full)), 4, api.OK}, {many(1, staff(1, full, full)), 4, api.OK},
		{clash, 4, api.ErrClash}, {clash, 3, api.ErrClash}, {clash, 2, api.ErrArg}, {append(slices.Clone(clash), staff(4, 3, 2)), 4, api.ErrArg}, {append(slices.Clone(clash), staff(5, 2, 3)), 4, api.ErrArg}, {append(slices.Clone(clash), staff(4, 9, 9)), 4, api.ErrClash},
		{[]api.Staff{staff(2, 4, 5), staff(3, 1, 4)}, 4, api.OK}, {[]api.Staff{staff(2, 1, 2), staff(2, 3, 4)}, 4, api.ErrClash}, {[]api.Staff{staff(0, 1, 1), staff(4, 0, 0)}, 4, api.ErrClash}, {[]api.Staff{staff(4, 1, 1), staff(0, 0, 0)}, 4, api.OK},
	} {
		a, b, e := flood.Between(x.l, x.last)
		if e != x.e || e != api.OK && len(a.V)+len(b.V) > 0 {
			t.Error(i, x, a, b, e)
		}
	}
}
