package flood_test

import (
	"slices"
	"testing"

	"drowner/api"
	"drowner/flood"
)

// breach returns the span of steps with the least later one, and then the least earlier one, between which too much passes.
func breach(a, l api.Curve) api.Span {
	for t := range a.V {
		for s := range t + 1 {
			if a.V[t]-a.V[s] > l.V[t-s] {
				return span(s, t)
			}
		}
	}
	return api.Span{}
}

// P4.4: the chapter's examples, and some in which there are several breaches.
func TestObeysExamples(t *testing.T) {
	for i, x := range []struct {
		a, l api.Curve
		s    api.Span
		is   bool
	}{
		{course(), limit(), span(0, 0), true},
		{limit(), limit(), span(0, 0), true},
		{curve(0, 5, 5, 7, 8), limit(), span(0, 1), false},
		{curve(0, 0, 5, 7, 8), limit(), span(1, 2), false},
		{curve(0, 4, 6, 8, 8), limit(), span(0, 3), false},
		{curve(0, 3, 7, 7, 8), limit(), span(0, 2), false},                         // from 1 to 2 there is none
		{curve(0, 3, 8, 8, 8), limit(), span(0, 2), false},                         // from 1 to 2 there is one, too
		{curve(0, 0, 0, 9, 20), limit(), span(0, 3), false},                        // so are all that end at 3 or 4
		{curve(9, 9, 9, 9, 9), flat(4, 0), span(0, 0), true},                       // nothing passes
		{curve(9, 9, 9, 9, 10), flat(4, 0), span(0, 4), false},                     // something does
		{curve(5), curve(0), span(0, 0), true},                                     // what has passed up to the step 0 does not count
		{curve(0, api.MaxVolume), curve(0, api.MaxVolume), span(0, 0), true},       // as much as there may be
		{curve(0, api.MaxVolume), curve(0, api.MaxVolume-1), span(0, 1), false},    // a bit less
		{curve(2, 6, 10, 10, 14), curve(0, 4, 7, 8, 11), span(0, 2), false},        // two at a time
		{curve(2, 6, 6, 10, 14), curve(0, 4, 7, 8, 12), span(2, 4), false},         // two at a time, later
		{curve(2, 6, 6, 10, 14, 14), curve(0, 4, 8, 8, 11, 11), span(0, 4), false}, // all four
	} {
		s, is, e := flood.Obeys(x.a, x.l)
		if e != api.OK || s != x.s || is != x.is {
			t.Error(i, s, is, e)
		}
	}
}

// P4.4, P4.14: each course and each limit; a course obeys a limit exactly if it obeys this, closed.
func TestObeys(t *testing.T) {
	for _, l := range small() {
		for _, a := range l {
			for _, m := range l {
				s, is, e := flood.Obeys(a, m)
				if e != api.OK || is != obeys(a, m) || s != breach(a, m) {
					t.Fatal(a, m, s, is, e)
				}
				c, _ := flood.Close(m)
				if _, so, _ := flood.Obeys(a, c); so != is {
					t.Fatal(a, m, c, is, so)
				}
			}
		}
	}
	r := chance(5)
	for range 300 {
		last := r.IntN(121)
		a := anyCurve(r, last, 300)
		m, _ := flood.Tightest(a)
		m.V[r.IntN(last+1)] += r.IntN(2)
		m.V[r.IntN(last+1)] -= r.IntN(2)
		if !isCurve(m) {
			continue
		}
		s, is, e := flood.Obeys(a, m)
		if e != api.OK || is != obeys(a, m) || s != breach(a, m) {
			t.Error(a, m, s, is, e)
		}
	}
}

// P4.14: a course obeys its tightest limit, and each other one that it obeys is at least this.
func TestTightest(t *testing.T) {
	for _, l := range small() {
		for _, a := range l {
			x, e := flood.Tightest(a)
			if e != api.OK || !obeys(a, x) || !isCurve(x) {
				t.Fatal(a, x, e)
			}
			for _, m := range l {
				if obeys(a, m) != isUnder(x, m) {
					t.Fatal(a, x, m)
				}
			}
		}
	}
}

// P4.5: the chapter's examples, and some of the tests' own.
func TestCloseExamples(t *testing.T) {
	for _, x := range []struct{ l, c api.Curve }{
		{curve(0, 4, 9, 9, 20), curve(0, 4, 8, 9, 13)},
		{limit(), limit()},
		{service(), flat(4, 0)},
		{curve(3, 4), curve(0, 4)},
		{curve(7), curve(0)},
		{curve(5, 5, 5, 5), curve(0, 5, 5, 5)},
		{curve(0, 10, 11, 30, 40, 50), curve(0, 10, 11, 21, 22, 32)},
		{flat(120, api.MaxVolume), curve(append([]int{0}, slices.Repeat([]int{api.MaxVolume}, 120)...)...)},
	} {
		c, e := flood.Close(x.l)
		is(t, "Close", c, e, x.c)
	}
	p, e := flood.Parts(curve(0, 4, 9, 9, 20), 4)
	slices.Sort(p)
	if e != api.OK || !slices.Equal(p, []int{1, 3}) {
		t.Error(p, e)
	}
	n, e := flood.CheckParts(curve(0, 4, 9, 9, 20), 4, []int{3, 1})
	if n != 13 || e != api.OK {
		t.Error(n, e)
	}
}

// P4.5, P4.14: closed limits by all divisions; each division has at least the sum that Close tells, and Parts has this.
func TestCloseAgainstAllDivisions(t *testing.T) {
	all := append(small(), allCurves(4, 4), allCurves(5, 3))
	r := chance(6)
	var long []api.Curve
	for range 60 {
		long = append(long, anyCurve(r, 9, 100))
	}
	for _, l := range append(all, long) {
		for _, x := range l {
			c, e := flood.Close(x)
			is(t, "Close", c, e, closeOf(x))
			again, e := flood.Close(c)
			is(t, "Close of Close", again, e, c)
			for step := range x.V {
				checkDivisions(t, x, step, c.V[step])
			}
		}
	}
}

func checkDivisions(t *testing.T, x api.Curve, step, sum int) {
	t.Helper()
	p, e := flood.Parts(x, step)
	n, f := flood.CheckParts(x, step, p)
	if e != api.OK || f != api.OK || n != sum || totalOf(x, p) != sum || step == 0 && len(p) > 0 {
		t.Error("Parts", x, step, p, n, sum, e, f)
	}
	for _, p := range divisions(step) {
		n, e := flood.CheckParts(x, step, p)
		if e != api.OK || n != totalOf(x, p) || n < sum {
			t.Error("CheckParts", x, step, p, n, sum, e)
		}
	}
}

// P4.5: long limits, whose closing no two parts make less.
func TestCloseLong(t *testing.T) {
	r := chance(7)
	for range 40 {
		x := anyCurve(r, 120, 1000)
		if r.IntN(2) == 0 {
			x = anyCurve(r, 120, api.MaxVolume)
		}
		c, e := flood.Close(x)
		if e != api.OK || !isCurve(c) || c.V[0] != 0 {
			t.Fatal(x, c, e)
		}
		for step, n := range c.V {
			p, e := flood.Parts(x, step)
			if sum, f := flood.CheckParts(x, step, p); sum != n || e != api.OK || f != api.OK {
				t.Error("Parts", step, p, sum, n, e, f)
			}
			if step > 0 && n > x.V[step] {
				t.Error("more than the limit", step)
			}
			for s := range step {
				if n > c.V[s]+c.V[step-s] {
					t.Error("two parts make it less", step, s)
				}
			}
		}
	}
	ones, e := flood.Parts(curve(append([]int{0, 0}, slices.Repeat([]int{1}, 119)...)...), 120)
	if e != api.OK || !slices.Equal(ones, slices.Repeat([]int{1}, 120)) {
		t.Error(ones, e)
	}
}

// P4.5: steps that are none.
func TestPartsSteps(t *testing.T) {
	for _, step := range []int{-1, 5, 6, 120, 121, 1<<63 - 1, -1 << 63} {
		p, e := flood.Parts(limit(), step)
		if len(p) > 0 || e != api.ErrArg {
			t.Error(step, p, e)
		}
		for _, p := range [][]int{nil, {1}, make([]int, 121), {step}} {
			n, e := flood.CheckParts(limit(), step, p)
			if n != 0 || e != api.ErrArg {
				t.Error(step, p, n, e)
			}
		}
	}
	for _, last := range []int{0, 1, 120} {
		_, e := flood.Parts(flat(last, 1), last)
		want(t, "the last step", e, api.OK)
		_, e = flood.Parts(flat(last, 1), last+1)
		want(t, "the step behind it", e, api.ErrArg)
	}
}

// P4.5: lists that are no divisions, and too long ones.
func TestCheckPartsErrors(t *testing.T) {
	far, low := 1<<63-1, -1<<63
	for i, x := range []struct {
		step int
		p    []int
		e    api.Errno
	}{
		{0, nil, api.OK}, {0, []int{}, api.OK}, {0, []int{0}, api.ErrProof}, {0, []int{1}, api.ErrProof}, {0, []int{1, -1}, api.ErrProof}, {0, []int{-1}, api.ErrProof},
		{3, nil, api.ErrProof}, {3, []int{3}, api.OK}, {3, []int{1, 2}, api.OK}, {3, []int{2, 1}, api.OK}, {3, []int{1, 1, 1}, api.OK}, {3, []int{1, 1}, api.ErrProof}, {3, []int{2}, api.ErrProof}, {3, []int{4}, api.ErrProof}, {3, []int{3, 1}, api.ErrProof}, {3, []int{1, 1, 1, 1}, api.ErrProof},
		{3, []int{0, 3}, api.ErrProof}, {3, []int{3, 0}, api.ErrProof}, {3, []int{4, -1}, api.ErrProof}, {3, []int{-1, 4}, api.ErrProof}, {3, []int{1, -1, 3}, api.ErrProof}, {3, []int{5}, api.ErrProof}, {3, []int{far}, api.ErrProof}, {3, []int{low}, api.ErrProof}, {3, []int{far, far, 5}, api.ErrProof}, {3, []int{low, low, 3}, api.ErrProof}, {3, []int{far, low, 4}, api.ErrProof},
		{3, make([]int, 120), api.ErrProof}, {3, make([]int, 121), api.ErrLimit}, {3, slices.Repeat([]int{1}, 121), api.ErrLimit}, {0, make([]int, 121), api.ErrLimit},
	} {
		n, e := flood.CheckParts(limit(), x.step, x.p)
		if e != x.e || e != api.OK && n != 0 || e == api.OK && n != totalOf(limit(), x.p) {
			t.Error(i, x, n, e)
		}
	}
	n, e := flood.CheckParts(flat(120, api.MaxVolume), 120, slices.Repeat([]int{1}, 120))
	if n != 120<<30 || e != api.OK {
		t.Error("a sum that no curve has", n, e)
	}
	n, e = flood.CheckParts(flat(120, 2), 120, slices.Repeat([]int{1}, 121))
	if n != 0 || e != api.ErrLimit {
		t.Error(n, e)
	}
}
