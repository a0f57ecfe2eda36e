package flood_test

import (
	"slices"
	"testing"

	"drowner/api"
	"drowner/flood"
)

// P4.6: the chapter's examples, and services that are not 0 at the step 0.
func TestServedExamples(t *testing.T) {
	for i, x := range []struct {
		in, out, s api.Curve
		step       int
		is         bool
	}{
		{course(), curve(0, 0, 1, 3, 6), service(), 0, true},
		{course(), course(), service(), 0, true},
		{course(), curve(0, 0, 0, 3, 6), service(), 2, false},
		{course(), curve(0, 0, 1, 3, 5), service(), 4, false},
		{course(), curve(0, 4, 4, 4, 6), service(), 1, false},
		{course(), curve(1, 1, 1, 3, 6), service(), 0, false},
		{course(), curve(0, 0, 0, 8, 8), service(), 2, false}, // too little, then too much
		{course(), curve(0, 4, 4, 4, 4), service(), 1, false}, // too much, then too little
		{curve(5), curve(4), curve(0), 0, false},
		{curve(5), curve(5), curve(0), 0, true},
		{curve(5), curve(5), curve(3), 0, true},
		{curve(5), curve(6), curve(3), 0, false},
		{curve(5), curve(4), curve(3), 0, false}, // with more service than that, all must flow on
		{curve(0, 9), curve(0, 3), curve(3, 7), 1, false},
		{curve(0, 9), curve(0, 6), curve(3, 7), 1, false},
		{curve(0, 9), curve(0, 7), curve(3, 7), 0, true},
		{flat(120, api.MaxVolume), flat(120, api.MaxVolume), flat(120, api.MaxVolume), 0, true},
		{flat(120, api.MaxVolume), flat(120, api.MaxVolume-1), flat(120, api.MaxVolume), 0, false},
	} {
		step, is, e := flood.Served(x.in, x.out, x.s)
		if e != api.OK || step != x.step || is != x.is {
			t.Error(i, step, is, e)
		}
	}
	out, e := flood.Least(course(), service())
	is(t, "Least", out, e, curve(0, 0, 1, 3, 6))
	out, e = flood.Least(curve(2, 9), curve(3, 4))
	is(t, "Least", out, e, curve(2, 6))
	out, e = flood.Least(flat(120, api.MaxVolume), flat(120, api.MaxVolume))
	is(t, "Least of what is too great when it is joined", out, e, flat(120, api.MaxVolume))
}

// P4.6, P4.15: Least is served, and each course that is served is at least it.
func TestServedAndLeast(t *testing.T) {
	yes, no := 0, 0
	for _, l := range small() {
		for _, in := range l {
			for _, s := range l {
				low, e := flood.Least(in, s)
				is(t, "Least", low, e, lesser(in, joinOf(in, s)))
				if step, so, e := flood.Served(in, low, s); step != 0 || !so || e != api.OK {
					t.Fatal("Least is not served", in, s, low, step, e)
				}
				for _, out := range l {
					step, so, e := flood.Served(in, out, s)
					wanted, right := serves(in, out, s)
					if e != api.OK || so != right || step != wanted || so != (isUnder(low, out) && isUnder(out, in)) {
						t.Fatal(in, out, s, step, so, e)
					}
					if so {
						yes++
					} else {
						no++
					}
				}
			}
		}
	}
	if yes < 1000 || no < 1000 {
		t.Error("too few of one kind:", yes, no)
	}
}

// P4.6: long courses, which differ from what is served at one step.
func TestServedLong(t *testing.T) {
	r := chance(8)
	for range 300 {
		last := r.IntN(121)
		in, s := anyCurve(r, last, 500), anyCurve(r, last, 400)
		out, _ := flood.Least(in, s)
		is(t, "Least", out, api.OK, lesser(in, joinOf(in, s)))
		out.V[r.IntN(last+1)] += r.IntN(5) - 2
		if !isCurve(out) {
			continue
		}
		step, so, e := flood.Served(in, out, s)
		wanted, right := serves(in, out, s)
		if e != api.OK || so != right || step != wanted {
			t.Error(in, out, s, step, so, e)
		}
	}
}

// P4.15: two reaches in a row serve as both joined do.
func TestTwoReaches(t *testing.T) {
	for _, l := range small() {
		for _, s := range l {
			for _, p := range l {
				if s.V[0] > 0 || p.V[0] > 0 {
					continue
				}
				both, e := flood.Chain([]api.Curve{s, p})
				want(t, "Chain", e, api.OK)
				for _, in := range l {
					one, _ := flood.Least(in, s)
					two, _ := flood.Least(one, p)
					at, e := flood.Least(in, both)
					is(t, "two reaches", two, e, at)
				}
			}
		}
	}
	r := chance(9)
	for range 50 {
		last := r.IntN(121)
		in, s, p := anyCurve(r, last, api.MaxVolume), anyCurve(r, last, api.MaxVolume), anyCurve(r, last, api.MaxVolume)
		s.V[0], p.V[0] = 0, 0
		both, _ := flood.Chain([]api.Curve{s, p})
		one, _ := flood.Least(in, s)
		two, _ := flood.Least(one, p)
		at, e := flood.Least(in, both)
		is(t, "two reaches", two, e, at)
	}
}

// leftOf returns what is left behind a limit, by its definition.
func leftOf(s, l api.Curve) api.Curve {
	var v []int
	for t := range s.V {
		n := 0
		for u := range t + 1 {
			n = max(n, s.V[u]-l.V[u])
		}
		v = append(v, n)
	}
	return curve(v...)
}

// behindOf returns the limit behind a reach, by its definition.
func behindOf(l, s api.Curve) api.Curve {
	c := closeOf(l)
	led := leadOf(c, s)
	var v []int
	for t, n := range c.V {
		v = append(v, max(n, led.V[t]))
	}
	return curve(v...)
}

// P4.7: the chapter's examples, and by the definitions.
func TestBehindAndLeft(t *testing.T) {
	b, e := flood.Behind(limit(), service())
	is(t, "Behind", b, e, curve(5, 6, 7, 8, 8))
	b, e = flood.Behind(curve(3, 4), flat(1, 100))
	is(t, "Behind a reach that lets all through", b, e, curve(0, 4))
	b, e = flood.Behind(curve(9, 4+5), flat(1, 0))
	is(t, "Behind a reach that lets nothing through", b, e, curve(9, 9))
	b, e = flood.Behind(curve(0, 4, 9, 9, 20), curve(0, 0, 2, 4, 9))
	is(t, "Behind a limit that is not closed", b, e, curve(6, 9, 11, 13, 13))
	l, e := flood.Left(curve(0, 2, 5, 9, 14), limit())
	is(t, "Left", l, e, curve(0, 0, 0, 2, 6))
	l, e = flood.Left(curve(5, 5, 5, 9), curve(1, 3, 4, 9))
	is(t, "Left, when it was more before", l, e, curve(4, 4, 4, 4))
	l, e = flood.Left(curve(0, 3, 9), curve(2, 3, 20)) // the limit itself, not closed
	is(t, "Left", l, e, curve(0, 0, 0))
	for _, l := range small() {
		for _, f := range l {
			for _, g := range l {
				b, e := flood.Behind(f, g)
				is(t, "Behind", b, e, behindOf(f, g))
				want(t, "what flows behind", flood.Check(b), api.OK)
				x, e := flood.Left(f, g)
				is(t, "Left", x, e, leftOf(f, g))
				want(t, "what is left", flood.Check(x), api.OK)
			}
		}
	}
}

// P4.7: long limits and services.
func TestBehindAndLeftLong(t *testing.T) {
	r := chance(10)
	for range 40 {
		f, g := anyCurve(r, 12, 100), anyCurve(r, 12, 100)
		b, e := flood.Behind(f, g)
		is(t, "Behind", b, e, behindOf(f, g))
		last := r.IntN(121)
		f, g = anyCurve(r, last, api.MaxVolume), anyCurve(r, last, api.MaxVolume)
		x, e := flood.Left(f, g)
		is(t, "Left", x, e, leftOf(f, g))
	}
	b, e := flood.Behind(flat(120, api.MaxVolume), flat(120, 0))
	is(t, "Behind", b, e, flat(120, api.MaxVolume))
}

// P4.17: whatever flows on behind a reach that serves a course that obeys the limit, obeys Behind.
func TestObeysBehind(t *testing.T) {
	seen := 0
	for _, l := range small() {
		for _, m := range l {
			for _, s := range l {
				b, _ := flood.Behind(m, s)
				eachPassage(l, m, s, func(in, out api.Curve) {
					seen++
					if _, so, e := flood.Obeys(out, b); !so || e != api.OK {
						t.Fatal(m, s, b, in, out, e)
					}
				})
			}
		}
	}
	if seen < 10000 {
		t.Error("too few:", seen)
	}
}

// eachPassage calls a function with each course of a list that obeys a limit, and each one that flows on behind a reach that serves it.
func eachPassage(l []api.Curve, limit, service api.Curve, do func(in, out api.Curve)) {
	for _, in := range l {
		if !obeys(in, limit) {
			continue
		}
		for _, out := range l {
			if _, so := serves(in, out, service); so {
				do(in, out)
			}
		}
	}
}

// P4.8: the chapter's examples, the first step of several, and the longest waiting.
func TestStoredAndWaitedExamples(t *testing.T) {
	for i, x := range []struct {
		in, out         api.Curve
		n, step, waited int
	}{
		{course(), curve(0, 0, 1, 3, 6), 4, 2, 2},
		{course(), course(), 0, 0, 0},
		{course(), flat(4, 0), 8, 4, 4},
		{curve(0, 3, 5, 5, 8), curve(0, 0, 2, 2, 6), 3, 1, 3},
		{curve(5, 6), curve(0, 1), 5, 0, 2},
		{curve(1), curve(0), 1, 0, 1},
		{curve(0), curve(0), 0, 0, 0},
		{curve(0, 1), curve(0, 0), 1, 1, 1},
		{flat(120, 1), flat(120, 0), 1, 0, 121},
		{flat(120, api.MaxVolume), flat(120, 0), api.MaxVolume, 0, 121},
		{curve(1, 1, 1), curve(0, 0, 1), 1, 0, 2},
	} {
		n, step, e := flood.Stored(x.in, x.out)
		if n != x.n || step != x.step || e != api.OK {
			t.Error("Stored", i, n, step, e)
		}
		w, e := flood.Waited(x.in, x.out)
		if w != x.waited || e != api.OK {
			t.Error("Waited", i, w, e)
		}
	}
}

// P4.8: each course, and what flows on; more than has come clashes.
func TestStoredAndWaited(t *testing.T) {
	for _, l := range small() {
		for _, in := range l {
			for _, out := range l {
				checkStored(t, in, out)
			}
		}
	}
	r := chance(11)
	for range 200 {
		last := r.IntN(121)
		a, b := anyCurve(r, last, 1000), anyCurve(r, last, 1000)
		out := lesser(a, b)
		checkStored(t, a, b)
		checkStored(t, a, out)
		in := curve(slices.Clone(a.V)...)
		in.V[last] = max(in.V[last], 1)
		clash := curve(slices.Clone(in.V)...)
		clash.V[last]++
		checkStored(t, in, clash)
	}
}

func checkStored(t *testing.T, in, out api.Curve) {
	t.Helper()
	n, step, e := flood.Stored(in, out)
	w, f := flood.Waited(in, out)
	if !isUnder(out, in) {
		if n != 0 || step != 0 || w != 0 || e != api.ErrClash || f != api.ErrClash {
			t.Error("a clash", in, out, n, step, w, e, f)
		}
		return
	}
	most, at := widest(in, out)
	if n != most || step != at || w != waitOf(in, out) || e != api.OK || f != api.OK {
		t.Error(in, out, n, step, w, e, f)
	}
}
