package flood_test

import (
	"slices"
	"testing"

	"drowner/api"
	"drowner/flood"
)

// Arguments are neither modified nor kept, and results are new memory (R6).

// roomy returns curves with room behind their numbers, in which nothing may be written.
func roomy() []api.Curve {
	l := slices.Grow(good(), 3)
	for i := range l {
		l[i].V = slices.Grow(l[i].V, 130)
	}
	return l
}

func isClean(l []int) bool {
	return !slices.ContainsFunc(l[:cap(l)][len(l):], func(n int) bool { return n != 0 })
}

func TestArgumentsStay(t *testing.T) {
	l := roomy()
	for _, f := range calls() {
		for step := -1; step <= 5; step++ {
			f.do(l[:f.curves:f.curves], step)
			for i, c := range good() {
				if !same(l[i], c) || !isClean(l[i].V) {
					t.Fatal(f.name, i, l[i])
				}
			}
		}
	}
	s := api.Surge{In: roomy()[0], Out: roomy()[2], Step: 2}
	want(t, "CheckBacklog", flood.CheckBacklog(limit(), service(), 5, s), api.OK)
	if !same(s.In, limit()) || !same(s.Out, service()) || !isClean(s.In.V) || !isClean(s.Out.V) {
		t.Error(s)
	}
	p := slices.Grow([]int{2, 1}, 9)
	flood.CheckParts(limit(), 3, p)
	if !slices.Equal(p, []int{2, 1}) || !isClean(p) {
		t.Error(p)
	}
	x := []api.Staff{staff(3, 1, 4), staff(2, 3, 5)}
	flood.Between(x, 4)
	if !slices.Equal(x, []api.Staff{staff(3, 1, 4), staff(2, 3, 5)}) {
		t.Error(x)
	}
	chain := roomy()
	flood.Chain(chain)
	for i, c := range good() {
		if !same(chain[i], c) || !isClean(chain[i].V) {
			t.Error(i, chain[i])
		}
	}
}

// fill writes into all of a list, and behind it.
func fill(l []int) {
	l = l[:cap(l)]
	for i := range l {
		l[i] = -99
	}
}

// lists returns all lists of numbers of all results.
func lists(a, l, s api.Curve) [][]int {
	sum, _ := flood.Sum(a, l)
	low, _ := flood.Lower(a, a)
	join, _ := flood.Join(l, s)
	one, _ := flood.Chain([]api.Curve{a})
	three, _ := flood.Chain([]api.Curve{a, l, s})
	led, _ := flood.Lead(l, s)
	own, _ := flood.Tightest(a)
	closed, _ := flood.Close(l)
	parts, _ := flood.Parts(l, 4)
	none, _ := flood.Parts(l, 0)
	least, _ := flood.Least(a, s)
	all, _ := flood.Least(a, a)
	behind, _ := flood.Behind(l, s)
	left, _ := flood.Left(s, l)
	_, x, _ := flood.Backlog(l, s)
	_, y, _ := flood.Backlog(l, l)
	from, to, _ := flood.Between([]api.Staff{staff(2, 3, 5)}, 4)
	return [][]int{sum.V, low.V, join.V, one.V, three.V, led.V, own.V, closed.V, parts, none, least.V, all.V, behind.V, left.V, x.In.V, x.Out.V, y.In.V, y.Out.V, from.V, to.V}
}

func TestResultsAreNew(t *testing.T) {
	a, l, s := course(), limit(), service()
	before := lists(a, l, s)
	all := lists(a, l, s)
	for i := range all {
		fill(all[i])
		for j := i + 1; j < len(all); j++ {
			if slices.Contains(all[j], -99) {
				t.Error("shared", i, j)
			}
		}
	}
	for i, x := range lists(a, l, s) {
		if !slices.Equal(x, before[i]) {
			t.Error("kept", i)
		}
	}
	if !same(a, course()) || !same(l, limit()) || !same(s, service()) {
		t.Error("an argument is shared", a, l, s)
	}
}
