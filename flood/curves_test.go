package flood_test

import (
	"slices"
	"testing"

	"drowner/api"
	"drowner/flood"
)

// badCurves returns curves that are none.
func badCurves() []api.Curve {
	far, low := 1<<63-1, -1<<63
	return []api.Curve{
		{}, {V: []int{}}, {V: make([]int, 122)}, {V: make([]int, 1000)},
		curve(-1), curve(low), curve(-1, 0, 1), curve(low, 0, far), curve(1, 0), curve(0, 2, 1), curve(0, 1, 2, 3, 2), curve(0, 5, 4, 6, 7), curve(3, 3, 2),
		curve(api.MaxVolume + 1), curve(far), curve(0, api.MaxVolume+1), curve(0, far), curve(0, 1, 2, 3, api.MaxVolume+1), curve(0, api.MaxVolume+1, 0),
	}
}

// P4.1: what is a curve, and what is none.
func TestCheck(t *testing.T) {
	for i, c := range badCurves() {
		if e := flood.Check(c); e != api.ErrArg {
			t.Error(i, e)
		}
	}
	for i, c := range []api.Curve{curve(0), curve(api.MaxVolume), curve(0, 0), curve(5, 5, 5), limit(), service(), flat(120, 0), flat(120, api.MaxVolume), curve(0, api.MaxVolume), curve(api.MaxVolume-1, api.MaxVolume)} {
		if e := flood.Check(c); e != api.OK {
			t.Error(i, e)
		}
	}
}

// P4.1: each number at each step.
func TestCheckEachStep(t *testing.T) {
	for at := range 5 {
		for n := -1; n <= 9; n++ {
			c := limit()
			c.V[at] = n
			e := api.ErrArg
			if isCurve(c) {
				e = api.OK
			}
			want(t, "a changed limit", flood.Check(c), e)
		}
	}
}

// P4.1: sums, and the lesser numbers.
func TestSumAndLower(t *testing.T) {
	for _, l := range small() {
		for _, f := range l {
			for _, g := range l {
				s, e := flood.Sum(f, g)
				is(t, "Sum", s, e, sumOf(f, g))
				m, e := flood.Lower(f, g)
				is(t, "Lower", m, e, lesser(f, g))
			}
		}
	}
	r := chance(1)
	for range 200 {
		last := r.IntN(121)
		f, g := anyCurve(r, last, api.MaxVolume/2), anyCurve(r, last, api.MaxVolume/2)
		s, e := flood.Sum(f, g)
		is(t, "Sum", s, e, sumOf(f, g))
		m, e := flood.Lower(f, g)
		is(t, "Lower", m, e, lesser(f, g))
	}
}

// P4.1: a sum that is just in range, or just not, at the last step or at all of them.
func TestSumRange(t *testing.T) {
	full := api.MaxVolume
	for i, x := range []struct {
		f, g api.Curve
		e    api.Errno
	}{
		{curve(full), curve(0), api.OK}, {curve(full), curve(1), api.ErrRange}, {curve(full), curve(full), api.ErrRange}, {curve(full - 5), curve(5), api.OK}, {curve(full - 5), curve(6), api.ErrRange},
		{curve(0, 1, full), curve(0, 0, 0), api.OK}, {curve(0, 1, full), curve(0, 0, 1), api.ErrRange}, {curve(1, full, full), curve(0, 1, 1), api.ErrRange}, {curve(0, 0, full/2), curve(0, full/2, full/2), api.OK},
	} {
		s, e := flood.Sum(x.f, x.g)
		want(t, "Sum", e, x.e)
		if e == api.OK && !same(s, sumOf(x.f, x.g)) || e != api.OK && len(s.V) > 0 {
			t.Error(i, s)
		}
	}
	m, e := flood.Lower(flat(120, full), flat(120, full))
	is(t, "Lower", m, e, flat(120, full))
}

// P4.2, P4.3: the chapter's examples, and some of the tests' own.
func TestJoinExamples(t *testing.T) {
	for _, x := range []struct{ f, g, joined, led api.Curve }{
		{limit(), service(), curve(0, 0, 1, 3, 6), curve(5, 6, 7, 8, 8)},
		{service(), limit(), curve(0, 0, 1, 3, 6), curve(0, 0, 1, 3, 6)},
		{curve(7), curve(4), curve(11), curve(3)},
		{curve(4), curve(7), curve(11), curve(0)},
		{curve(0, 10, 20), curve(3, 4, 5), curve(3, 4, 5), curve(15, 16, 17)},
		{curve(1, 10, 20), curve(3, 4, 15), curve(4, 5, 14), curve(6, 16, 17)},
	} {
		j, e := flood.Join(x.f, x.g)
		is(t, "Join", j, e, x.joined)
		d, e := flood.Lead(x.f, x.g)
		is(t, "Lead", d, e, x.led)
	}
	a, e := flood.Tightest(course())
	is(t, "Tightest", a, e, course())
	a, e = flood.Tightest(curve(5, 6, 9, 10, 14))
	is(t, "Tightest", a, e, curve(0, 4, 5, 8, 9))
	a, e = flood.Tightest(curve(7))
	is(t, "Tightest", a, e, curve(0))
}

// P4.2, P4.12: joined curves and their splits, by all ways to divide the steps.
func TestJoinAndSplit(t *testing.T) {
	for _, l := range small() {
		for _, f := range l {
			for _, g := range l {
				checkJoin(t, f, g)
			}
		}
	}
	r := chance(2)
	for range 60 {
		last := r.IntN(121)
		checkJoin(t, anyCurve(r, last, api.MaxVolume/2), anyCurve(r, last, api.MaxVolume/2))
		checkJoin(t, anyCurve(r, last, 5), anyCurve(r, last, 5))
	}
}

func checkJoin(t *testing.T, f, g api.Curve) {
	t.Helper()
	j, e := flood.Join(f, g)
	is(t, "Join", j, e, joinOf(f, g))
	other, e := flood.Join(g, f)
	is(t, "Join, in the other order", other, e, j)
	want(t, "what is joined", flood.Check(j), api.OK)
	for step, n := range j.V {
		if n > f.V[step]+g.V[0] || n > g.V[step]+f.V[0] {
			t.Error("joined, they are more than one of them", f, g, step)
		}
		s, e := flood.Split(f, g, step)
		if e != api.OK || s < 0 || s > step || f.V[s]+g.V[step-s] != n {
			t.Error("Split", f, g, step, s, e)
			continue
		}
		for less := range s {
			if f.V[less]+g.V[step-less] <= n {
				t.Error("Split is not the least one", f, g, step, s, less)
			}
		}
	}
}

// P4.2: a number that is just in range, or just not.
func TestJoinRange(t *testing.T) {
	full := api.MaxVolume
	for i, x := range []struct {
		f, g api.Curve
		e    api.Errno
	}{
		{curve(full), curve(0), api.OK}, {curve(full), curve(1), api.ErrRange}, {curve(full), curve(full), api.ErrRange},
		{curve(0, full), curve(0, full), api.OK}, {curve(1, full), curve(1, full), api.ErrRange}, {curve(1, full), curve(1, full-1), api.OK}, {curve(1, full-1), curve(1, full), api.OK}, {curve(0, 0, full), curve(1, full, full), api.OK},
		{curve(1, 1, full), curve(1, full, full), api.ErrRange}, {flat(120, full/2), flat(120, full/2), api.OK}, {flat(120, full/2), flat(120, full/2+1), api.ErrRange},
	} {
		j, e := flood.Join(x.f, x.g)
		want(t, "Join", e, x.e)
		if e == api.OK && !same(j, joinOf(x.f, x.g)) || e != api.OK && len(j.V) > 0 {
			t.Error(i, j)
		}
		c, e := flood.Chain([]api.Curve{x.f, x.g})
		if e != x.e || !same(c, j) {
			t.Error("Chain", i, c, e)
		}
		// Split has no such error: it returns a step.
		s, e := flood.Split(x.f, x.g, len(x.f.V)-1)
		if at := len(x.f.V) - 1; e != api.OK || x.f.V[s]+x.g.V[at-s] != joinOf(x.f, x.g).V[at] {
			t.Error("Split", i, s, e)
		}
	}
}

// P4.2: a step that is none, behind curves that are none.
func TestSplitSteps(t *testing.T) {
	for _, step := range []int{-1, 5, 6, 121, 1<<63 - 1, -1 << 63} {
		s, e := flood.Split(limit(), service(), step)
		if s != 0 || e != api.ErrArg {
			t.Error(step, s, e)
		}
	}
	for step := range 5 {
		n, e := flood.Split(service(), limit(), step)
		if n != step || e != api.OK {
			t.Error(step, n, e)
		}
	}
	for _, last := range []int{0, 120} {
		_, e := flood.Split(flat(last, 1), flat(last, 1), last)
		want(t, "the last step", e, api.OK)
		_, e = flood.Split(flat(last, 1), flat(last, 1), last+1)
		want(t, "a step behind it", e, api.ErrArg)
	}
}

// P4.2, P4.12: chains, and that it does not matter which two are joined first.
func TestChain(t *testing.T) {
	for _, l := range small() {
		for i, f := range l {
			one, e := flood.Chain([]api.Curve{f})
			is(t, "a chain of one", one, e, f)
			for j, g := range l {
				two, e := flood.Chain([]api.Curve{f, g})
				is(t, "a chain of two", two, e, joinOf(f, g))
				h := l[(i*7+j*3)%len(l)]
				three, e := flood.Chain([]api.Curve{f, g, h})
				is(t, "a chain of three", three, e, joinOf(joinOf(f, g), h))
				back, _ := flood.Join(g, h)
				other, e := flood.Join(f, back)
				is(t, "the last two first", other, e, three)
			}
		}
	}
	r := chance(3)
	for n := 1; n <= api.MaxChain; n++ {
		l := []api.Curve{anyCurve(r, 120, api.MaxVolume/12)}
		all := l[0]
		for len(l) < n {
			l = append(l, anyCurve(r, 120, api.MaxVolume/12))
			all = joinOf(all, l[len(l)-1])
		}
		c, e := flood.Chain(l)
		is(t, "a long chain", c, e, all)
	}
}

// P4.2: the errors of chains, in their order.
func TestChainErrors(t *testing.T) {
	many := func(n int, c api.Curve) []api.Curve { return slices.Repeat([]api.Curve{c}, n) }
	full := api.MaxVolume
	for what, x := range map[string]struct {
		l []api.Curve
		e api.Errno
	}{
		"nil":                                   {nil, api.ErrArg},
		"none":                                  {[]api.Curve{}, api.ErrArg},
		"twelve":                                {many(12, limit()), api.OK},
		"thirteen":                              {many(13, limit()), api.ErrLimit},
		"many":                                  {many(500, limit()), api.ErrLimit},
		"thirteen that are none":                {make([]api.Curve, 13), api.ErrLimit},
		"thirteen that are too great":           {many(13, curve(full)), api.ErrLimit},
		"twelve that are none":                  {make([]api.Curve, 12), api.ErrArg},
		"one that is none":                      {make([]api.Curve, 1), api.ErrArg},
		"too great":                             {many(2, curve(full)), api.ErrRange},
		"the last one is none":                  {[]api.Curve{limit(), limit(), curve(1, 0, 0, 0, 0)}, api.ErrArg},
		"the first one is none":                 {[]api.Curve{curve(1, 0, 0, 0, 0), limit(), limit()}, api.ErrArg},
		"of another length":                     {[]api.Curve{limit(), limit(), flat(3, 1)}, api.ErrArg},
		"the first one is of another length":    {[]api.Curve{flat(3, 1), limit(), limit()}, api.ErrArg},
		"too great, then one that is none":      {[]api.Curve{curve(full), curve(full), curve(-1)}, api.ErrArg},
		"too great, then one of another length": {[]api.Curve{curve(full), curve(full), limit()}, api.ErrArg},
		"too great at last":                     {[]api.Curve{curve(0, full), curve(0, full), curve(1, full), curve(1, full)}, api.ErrRange},
		"too great on the way, and not at last": {[]api.Curve{curve(1, full), curve(1, full), curve(0, 0)}, api.ErrRange},
		"the same, in another order":            {[]api.Curve{curve(1, full), curve(0, 0), curve(1, full)}, api.OK},
	} {
		c, e := flood.Chain(x.l)
		want(t, what, e, x.e)
		if e != api.OK && len(c.V) > 0 {
			t.Error(what, c)
		}
	}
}

// P4.3: what leads, by all steps.
func TestLead(t *testing.T) {
	for _, l := range small() {
		for _, f := range l {
			a, e := flood.Tightest(f)
			is(t, "Tightest", a, e, leadOf(f, f))
			for _, g := range l {
				d, e := flood.Lead(f, g)
				is(t, "Lead", d, e, leadOf(f, g))
				want(t, "what leads", flood.Check(d), api.OK)
			}
		}
	}
	r := chance(4)
	for range 60 {
		last := r.IntN(121)
		f, g := anyCurve(r, last, api.MaxVolume), anyCurve(r, last, 1+r.IntN(api.MaxVolume))
		d, e := flood.Lead(f, g)
		is(t, "Lead", d, e, leadOf(f, g))
		a, e := flood.Tightest(f)
		is(t, "Tightest", a, e, leadOf(f, f))
	}
}

// P4.13: a curve is at most two joined exactly if what leads is at most one of them.
func TestLeadingAndJoining(t *testing.T) {
	yes, no := 0, 0
	for _, l := range small() {
		for _, f := range l {
			for _, g := range l {
				d, _ := flood.Lead(f, g)
				for _, h := range l {
					j, _ := flood.Join(h, g)
					is := isUnder(f, j)
					if is != isUnder(d, h) {
						t.Fatal(f, g, h, d, j)
					}
					if is {
						yes++
					} else {
						no++
					}
				}
			}
		}
	}
	if yes < 1000 || no < 1000 {
		t.Error("too few of one kind:", yes, no)
	}
}
