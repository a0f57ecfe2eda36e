package levy_test

import (
	"math/rand/v2"
	"slices"
	"testing"

	"drowner/api"
	"drowner/levy"
)

// byFour is the division of 6 8 10 3 in which all who use a reach pay the same.
func byFour() [][]int { return [][]int{{3, 3, 3, 3}, {3, 0, 3, 0}, {0, 5, 0, 0}, {0, 0, 4, 0}} }

func copyRows(d [][]int) [][]int {
	d = slices.Clone(d)
	for i, l := range d {
		d[i] = slices.Clone(l)
	}
	return d
}

func sameRows(a, b [][]int) bool { return slices.EqualFunc(a, b, slices.Equal[[]int]) }

// P8.6, in the chapter's example, and at the edges.
func TestDivideExamples(t *testing.T) {
	nothing := with(example(), func(t *api.Tree) { t.Payers = nil })
	part := with(example(), func(t *api.Tree) { t.Payers = t.Payers[:1] })
	free := with(part, func(t *api.Tree) { t.Reaches[0].Cost = 0 })
	for _, x := range []struct {
		t     api.Tree
		pence []int
		d     [][]int
		e     api.Errno
	}{
		{example(), []int{0, 17, 10, 0}, [][]int{{0, 12, 0, 0}, {0, 0, 6, 0}, {0, 5, 0, 0}, {0, 0, 4, 0}}, api.OK},
		{part, []int{18}, [][]int{{12}, {6}, {0}, {0}}, api.OK},
		{free, []int{6}, [][]int{{0}, {6}, {0}, {0}}, api.OK},
		{nothing, nil, [][]int{nil, nil, nil, nil}, api.OK},
		{api.Tree{}, nil, nil, api.OK},
		{example(), []int{2, 18, 7, 0}, nil, api.ErrClash},
		{example(), []int{0, 17, 9, 0}, nil, api.ErrClash},
		{example(), []int{0, 17, 10, 1}, nil, api.ErrClash},
		{example(), []int{0, 0, 0, 0}, nil, api.ErrClash},
		{example(), []int{1 << 30, 1 << 30, 1 << 30, 1 << 30}, nil, api.ErrClash},
		{part, []int{27}, nil, api.ErrClash},
	} {
		if d, e := levy.Divide(x.t, x.pence); !sameRows(d, x.d) || e != x.e {
			t.Error(x, d, e)
		}
	}
}

// divides fails a test unless there is a division of pence exactly if they are fair.
func divides(t *testing.T, w api.Tree, pence []int, fair bool) {
	t.Helper()
	d, e := levy.Divide(w, pence)
	if !fair && (len(d) > 0 || e != api.ErrClash) {
		t.Fatal(w, pence, d, e)
	}
	if fair && (!isDivision(w, pence, d) || e != api.OK || levy.CheckDivide(w, pence, d) != api.OK) {
		t.Fatal(w, pence, d, e)
	}
}

// P8.6: Divide, against all groups of small trees, and against flows in great ones.
func TestDivide(t *testing.T) {
	seen := map[bool]int{}
	small(30, 600, func(r *rand.Rand, w api.Tree) {
		pence := anyPence(r, w)
		fair := isFair(w, pence)
		divides(t, w, pence, fair)
		seen[fair]++
	})
	large(31, 150, func(r *rand.Rand, w api.Tree) {
		pence := anyPence(r, w)
		fair := total(flowOf(w, pence).left) == 0 && total(pence) == wholeOf(w)
		divides(t, w, pence, fair)
		seen[fair]++
	})
	if seen[true] < 200 || seen[false] < 250 {
		t.Error("only", seen)
	}
}

// Each sentence on divisions counts by itself.
func TestCheckDivideSentences(t *testing.T) {
	pence := []int{6, 8, 10, 3}
	for _, x := range []struct {
		name string
		do   func(d [][]int) [][]int
		want api.Errno
	}{
		{"a division", func(d [][]int) [][]int { return d }, api.OK},
		{"another one", func(d [][]int) [][]int { return set(set(d, 0, 6, 3, 0, 3), 1, 0, 0, 6, 0) }, api.OK},
		{"none", func(d [][]int) [][]int { return nil }, api.ErrProof},
		{"a list too few", func(d [][]int) [][]int { return d[:3] }, api.ErrProof},
		{"a list too many", func(d [][]int) [][]int { return append(d, []int{0, 0, 0, 0}) }, api.ErrProof},
		{"an empty list too many", func(d [][]int) [][]int { return append(d, nil) }, api.ErrProof},
		{"a number too few", func(d [][]int) [][]int { return set(d, 2, 0, 5, 0) }, api.ErrProof},
		{"a number too many", func(d [][]int) [][]int { return set(d, 2, 0, 5, 0, 0, 0) }, api.ErrProof},
		{"an empty list", func(d [][]int) [][]int { return set(d, 3) }, api.ErrProof},
		{"one who does not use it", func(d [][]int) [][]int { return set(set(d, 0, 4, 2, 3, 3), 1, 2, 1, 3, 0) }, api.ErrProof},
		{"less than 0", func(d [][]int) [][]int { return set(set(d, 0, 7, 3, -1, 3), 1, -1, 0, 7, 0) }, api.ErrProof},
		{"less than 0, of one who does not use it", func(d [][]int) [][]int { return set(set(d, 0, 3, 4, 3, 2), 1, 3, -1, 3, 1) }, api.ErrProof},
		{"a cost that is not reached", func(d [][]int) [][]int { return set(set(d, 0, 4, 3, 3, 3), 1, 2, 0, 3, 0) }, api.ErrProof},
		{"the sums of payers", func(d [][]int) [][]int { return set(d, 1, 2, 0, 4, 0) }, api.ErrProof},
		{"all for nothing", func(d [][]int) [][]int {
			return [][]int{make([]int, 4), make([]int, 4), make([]int, 4), make([]int, 4)}
		}, api.ErrProof},
		{"sums that are right as int", func(d [][]int) [][]int { return set(d, 0, 1<<62+3, 1<<62+3, 1<<62+3, 1<<62+3) }, api.ErrProof},
		{"sums that are all right as int", func(d [][]int) [][]int {
			return set(set(d, 0, 1<<63-1, 1<<63-1, 14-6, 6), 1, 6, 0, 0, 0)
		}, api.ErrProof},
		{"the least number", func(d [][]int) [][]int { return set(d, 0, -1<<63, 3, -1<<63, 3) }, api.ErrProof},
	} {
		d := x.do(byFour())
		want(t, x.name, levy.CheckDivide(example(), pence, d), x.want)
		if isDivision(example(), pence, d) != (x.want == api.OK) {
			t.Error("the case is wrong", x.name)
		}
	}
	want(t, "of other pence", levy.CheckDivide(example(), []int{6, 8, 11, 2}, byFour()), api.ErrProof)
	want(t, "of pence that are not fair", levy.CheckDivide(example(), []int{2, 18, 7, 0}, byFour()), api.ErrProof)
	part := with(example(), func(t *api.Tree) { t.Payers = t.Payers[:1] })
	want(t, "reaches that are not used", levy.CheckDivide(part, []int{18}, [][]int{{12}, {6}, {0}, {0}}), api.OK)
	want(t, "pay for what is not used", levy.CheckDivide(part, []int{23}, [][]int{{12}, {6}, {5}, {0}}), api.ErrProof)
	nothing := with(example(), func(t *api.Tree) { t.Payers = nil })
	want(t, "nobody", levy.CheckDivide(nothing, nil, make([][]int, 4)), api.OK)
	want(t, "nobody, and too few lists", levy.CheckDivide(nothing, nil, nil), api.ErrProof)
	want(t, "nobody, and numbers", levy.CheckDivide(nothing, nil, [][]int{{0}, {0}, {0}, {0}}), api.ErrProof)
	want(t, "nothing", levy.CheckDivide(api.Tree{}, nil, nil), api.OK)
}

// set returns a division with another list for a reach.
func set(d [][]int, reach int, l ...int) [][]int {
	d = copyRows(d)
	d[reach] = l
	return d
}

// P8.6: CheckDivide, against the chapter's definition.
func TestCheckDivide(t *testing.T) {
	yes, no := 0, 0
	small(32, 600, func(r *rand.Rand, w api.Tree) {
		d := anyDivision(r, w)
		pence := dividedBy(w, d)
		want(t, "a division", levy.CheckDivide(w, pence, d), api.OK)
		if len(w.Payers) == 0 || len(w.Reaches) == 0 {
			return
		}
		for range 5 {
			other := copyRows(d)
			for range 1 + r.IntN(3) {
				other[r.IntN(len(d))][r.IntN(len(pence))] += r.IntN(3) - 1
			}
			asked := pence
			if l := dividedBy(w, other); r.IntN(2) == 0 && slices.Min(l) >= 0 {
				asked = l
			}
			wanted := api.ErrProof
			if isDivision(w, asked, other) {
				wanted = api.OK
				yes++
			} else {
				no++
			}
			if e := levy.CheckDivide(w, asked, other); e != wanted {
				t.Fatal(w, asked, other, e, wanted)
			}
		}
	})
	if yes < 200 || no < 1000 {
		t.Error("only", yes, no)
	}
}
