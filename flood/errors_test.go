package flood_test

import (
	"slices"
	"testing"

	"drowner/api"
	"drowner/flood"
)

// call is a function of the chapter with as many curves; it returns the error, and whether all else is zero.
type call struct {
	name   string
	curves int
	do     func(l []api.Curve, step int) (api.Errno, bool)
}

func one(c api.Curve, e api.Errno) (api.Errno, bool) { return e, len(c.V) == 0 }

func number(n int, e api.Errno) (api.Errno, bool) { return e, n == 0 }

func calls() []call {
	return []call{
		{"Check", 1, func(l []api.Curve, _ int) (api.Errno, bool) { return flood.Check(l[0]), true }},
		{"Sum", 2, func(l []api.Curve, _ int) (api.Errno, bool) { return one(flood.Sum(l[0], l[1])) }},
		{"Lower", 2, func(l []api.Curve, _ int) (api.Errno, bool) { return one(flood.Lower(l[0], l[1])) }},
		{"Join", 2, func(l []api.Curve, _ int) (api.Errno, bool) { return one(flood.Join(l[0], l[1])) }},
		{"Split", 2, func(l []api.Curve, step int) (api.Errno, bool) { return number(flood.Split(l[0], l[1], step)) }},
		{"Chain", 2, func(l []api.Curve, _ int) (api.Errno, bool) { return one(flood.Chain(l)) }},
		{"Lead", 2, func(l []api.Curve, _ int) (api.Errno, bool) { return one(flood.Lead(l[0], l[1])) }},
		{"Tightest", 1, func(l []api.Curve, _ int) (api.Errno, bool) { return one(flood.Tightest(l[0])) }},
		{"Obeys", 2, func(l []api.Curve, _ int) (api.Errno, bool) {
			x, is, e := flood.Obeys(l[0], l[1])
			return e, x == api.Span{} && !is
		}},
		{"Close", 1, func(l []api.Curve, _ int) (api.Errno, bool) { return one(flood.Close(l[0])) }},
		{"Parts", 1, func(l []api.Curve, step int) (api.Errno, bool) {
			p, e := flood.Parts(l[0], step)
			return e, len(p) == 0
		}},
		{"CheckParts", 1, func(l []api.Curve, step int) (api.Errno, bool) {
			return number(flood.CheckParts(l[0], step, []int{1, 1}))
		}},
		{"Served", 3, func(l []api.Curve, _ int) (api.Errno, bool) {
			n, is, e := flood.Served(l[0], l[1], l[2])
			return e, n == 0 && !is
		}},
		{"Least", 2, func(l []api.Curve, _ int) (api.Errno, bool) { return one(flood.Least(l[0], l[1])) }},
		{"Behind", 2, func(l []api.Curve, _ int) (api.Errno, bool) { return one(flood.Behind(l[0], l[1])) }},
		{"Left", 2, func(l []api.Curve, _ int) (api.Errno, bool) { return one(flood.Left(l[0], l[1])) }},
		{"Stored", 2, func(l []api.Curve, _ int) (api.Errno, bool) {
			n, step, e := flood.Stored(l[0], l[1])
			return e, n == 0 && step == 0
		}},
		{"Waited", 2, func(l []api.Curve, _ int) (api.Errno, bool) { return number(flood.Waited(l[0], l[1])) }},
		{"Backlog", 2, func(l []api.Curve, _ int) (api.Errno, bool) {
			n, s, e := flood.Backlog(l[0], l[1])
			return e, n == 0 && len(s.In.V)+len(s.Out.V)+s.Step == 0
		}},
		{"CheckBacklog", 2, func(l []api.Curve, _ int) (api.Errno, bool) {
			return flood.CheckBacklog(l[0], l[1], 0, api.Surge{In: flat(4, 0), Out: flat(4, 0)}), true
		}},
		{"Delay", 2, func(l []api.Curve, _ int) (api.Errno, bool) { return number(flood.Delay(l[0], l[1])) }},
	}
}

// good returns curves with which no function of the chapter finds an error.
func good() []api.Curve { return []api.Curve{limit(), course(), service()} }

// The errors of all functions: of each curve that is none, and of lengths that differ.
func TestCurvesFirst(t *testing.T) {
	for _, f := range calls() {
		e, _ := f.do(good()[:f.curves], 2)
		want(t, f.name, e, api.OK)
		for i := range f.curves {
			for _, bad := range append(badCurves(), flat(3, 1), flat(5, 1), flat(120, 1), curve(0)) {
				if f.curves == 1 && isCurve(bad) {
					continue
				}
				for _, step := range []int{2, -1, 5, 200} {
					l := good()[:f.curves]
					l[i] = bad
					e, zero := f.do(l, step)
					if e != api.ErrArg || !zero {
						t.Error(f.name, i, bad, step, e, zero)
					}
				}
			}
		}
	}
}

// The error of a curve comes ahead of that of a step, of a range, of a clash, and of a proof, and of too many parts.
func TestOrder(t *testing.T) {
	full, bad := curve(api.MaxVolume), curve(-1)
	_, e := flood.Sum(full, flat(1, api.MaxVolume))
	want(t, "Sum", e, api.ErrArg)
	_, e = flood.Join(flat(1, api.MaxVolume), full)
	want(t, "Join", e, api.ErrArg)
	_, _, e = flood.Stored(bad, full)
	want(t, "Stored", e, api.ErrArg)
	_, e = flood.Waited(curve(0), flat(1, 5))
	want(t, "Waited", e, api.ErrArg)
	_, e = flood.CheckParts(bad, 0, make([]int, 121))
	want(t, "CheckParts", e, api.ErrArg)
	_, e = flood.CheckParts(full, 1, make([]int, 121))
	want(t, "CheckParts", e, api.ErrArg)
	want(t, "CheckBacklog", flood.CheckBacklog(bad, full, 1, api.Surge{}), api.ErrArg)
	want(t, "CheckBacklog", flood.CheckBacklog(full, flat(1, 1), 1, api.Surge{}), api.ErrArg)
	want(t, "CheckBacklog", flood.CheckBacklog(full, full, 0, api.Surge{}), api.ErrProof)
}

// The greatest curves do no harm.
func TestGreatest(t *testing.T) {
	for _, c := range []api.Curve{flat(120, api.MaxVolume), flat(120, 0), flat(0, api.MaxVolume), flat(0, 0)} {
		l := slices.Repeat([]api.Curve{c}, 3)
		for _, f := range calls() {
			for step := range c.V {
				if e, _ := f.do(l[:f.curves], step); e == api.ErrArg {
					t.Error(f.name, step, e)
				}
			}
		}
	}
}
