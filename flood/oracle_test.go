package flood_test

import (
	"math/rand/v2"
	"slices"
	"testing"

	"drowner/api"
)

// The tests compare the package with what the chapter's definitions say, looked up step by step, division by division, and course by course.

func curve(l ...int) api.Curve { return api.Curve{V: l} }

func span(lo, hi int) api.Span { return api.Span{Lo: lo, Hi: hi} }

// limit, service and course are the curves of the chapter's examples.
func limit() api.Curve   { return curve(0, 4, 6, 7, 8) }
func service() api.Curve { return curve(0, 0, 1, 3, 6) }
func course() api.Curve  { return curve(0, 3, 5, 7, 8) }

// flat returns a curve with a last step that has the same number everywhere.
func flat(last, n int) api.Curve { return curve(slices.Repeat([]int{n}, last+1)...) }

// chance returns numbers that are the same in each run.
func chance(seed uint64) *rand.Rand { return rand.New(rand.NewPCG(seed, 17)) }

// anyCurve returns a curve with a last step whose numbers are at most top.
func anyCurve(r *rand.Rand, last, top int) api.Curve {
	l := make([]int, last+1)
	for i := range l {
		l[i] = r.IntN(top + 1)
	}
	slices.Sort(l)
	return curve(l...)
}

// allCurves returns all curves with a last step whose numbers are at most top.
func allCurves(last, top int) []api.Curve {
	var l []api.Curve
	var grow func(v []int)
	grow = func(v []int) {
		if len(v) > last {
			l = append(l, curve(slices.Clone(v)...))
			return
		}
		low := 0
		if len(v) > 0 {
			low = v[len(v)-1]
		}
		for n := low; n <= top; n++ {
			grow(append(v, n))
		}
	}
	grow(nil)
	return l
}

// small returns lists of all curves of the same length, of up to four steps, with small numbers.
func small() [][]api.Curve {
	return [][]api.Curve{allCurves(0, 4), allCurves(1, 4), allCurves(2, 3), allCurves(3, 3)}
}

// sumOf, joinOf, leadOf and lesser are as the chapter says, step by step.
func sumOf(f, g api.Curve) api.Curve {
	var l []int
	for t := range f.V {
		l = append(l, f.V[t]+g.V[t])
	}
	return curve(l...)
}

func lesser(f, g api.Curve) api.Curve {
	var l []int
	for t := range f.V {
		l = append(l, min(f.V[t], g.V[t]))
	}
	return curve(l...)
}

func joinOf(f, g api.Curve) api.Curve {
	var l []int
	for t := range f.V {
		n := f.V[0] + g.V[t]
		for s := 1; s <= t; s++ {
			n = min(n, f.V[s]+g.V[t-s])
		}
		l = append(l, n)
	}
	return curve(l...)
}

func leadOf(f, g api.Curve) api.Curve {
	var l []int
	for t := range f.V {
		n := 0
		for u := 0; t+u < len(f.V); u++ {
			n = max(n, f.V[t+u]-g.V[u])
		}
		l = append(l, n)
	}
	return curve(l...)
}

// divisions returns all divisions of a number of steps.
func divisions(t int) [][]int {
	if t == 0 {
		return [][]int{nil}
	}
	var l [][]int
	for n := 1; n <= t; n++ {
		for _, x := range divisions(t - n) {
			l = append(l, append([]int{n}, x...))
		}
	}
	return l
}

// totalOf returns the sum of a division by a limit.
func totalOf(l api.Curve, division []int) int {
	sum := 0
	for _, n := range division {
		sum += l.V[n]
	}
	return sum
}

// closeOf returns a limit, closed, by all divisions.
func closeOf(l api.Curve) api.Curve {
	var c []int
	for t := range l.V {
		n := 1 << 60
		for _, x := range divisions(t) {
			n = min(n, totalOf(l, x))
		}
		c = append(c, n)
	}
	return curve(c...)
}

func obeys(a, l api.Curve) bool {
	for t := range a.V {
		for s := range t + 1 {
			if a.V[t]-a.V[s] > l.V[t-s] {
				return false
			}
		}
	}
	return true
}

// serves returns the first step at which a reach does not serve a course, and whether it does.
func serves(in, out, s api.Curve) (int, bool) {
	must := lesser(in, joinOf(in, s))
	for t, n := range out.V {
		if n > in.V[t] || n < must.V[t] {
			return t, false
		}
	}
	return 0, true
}

// widest returns the greatest difference of two curves, and the first step at which it is so great.
func widest(f, g api.Curve) (n, step int) {
	n = f.V[0] - g.V[0]
	for t := range f.V {
		if f.V[t]-g.V[t] > n {
			n, step = f.V[t]-g.V[t], t
		}
	}
	return n, step
}

// waitOf returns the least number of steps by which a curve is shifted so that it is nowhere greater than another one.
func waitOf(f, g api.Curve) int {
	w := 0
	for ; ; w++ {
		fits := true
		for t := 0; t+w < len(f.V); t++ {
			fits = fits && f.V[t] <= g.V[t+w]
		}
		if fits {
			return w
		}
	}
}

// isUnder reports whether a curve is at most another one.
func isUnder(f, g api.Curve) bool {
	for t := range f.V {
		if f.V[t] > g.V[t] {
			return false
		}
	}
	return true
}

func same(f, g api.Curve) bool { return slices.Equal(f.V, g.V) }

// isCurve reports whether a curve is valid.
func isCurve(c api.Curve) bool {
	for t, n := range c.V {
		if n < 0 || n > 1<<30 || t > 0 && n < c.V[t-1] {
			return false
		}
	}
	return len(c.V) > 0 && len(c.V) <= 121
}

// is fails a test unless a curve is as it should be.
func is(t *testing.T, what string, got api.Curve, e api.Errno, wanted api.Curve) {
	t.Helper()
	if e != api.OK || !same(got, wanted) {
		t.Errorf("%s: %v, error %d, not %v", what, got.V, e, wanted.V)
	}
}

// want fails a test unless an error is as it should be.
func want(t *testing.T, what string, got, wanted api.Errno) {
	t.Helper()
	if got != wanted {
		t.Errorf("%s: error %d, not %d", what, got, wanted)
	}
}
