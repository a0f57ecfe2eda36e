package levy_test

import (
	"slices"
	"testing"

	"drowner/api"
	"drowner/levy"
)

// Arguments are neither modified nor kept, and results are new memory (R6).

// isZero reports whether there is nothing behind a list.
func isZero[T comparable](l []T) bool {
	var zero T
	return !slices.ContainsFunc(l[:cap(l)][len(l):], func(x T) bool { return x != zero })
}

// roomy returns a question with room behind all lists, in which there is much to sort.
func roomy() question {
	q := good()
	slices.Reverse(q.t.Payers)
	slices.Reverse(q.pence)
	slices.Reverse(q.shares)
	for i := range q.d {
		slices.Reverse(q.d[i])
		q.d[i] = slices.Grow(q.d[i], 9)
	}
	q.t.Reaches = slices.Grow(q.t.Reaches, 9)
	q.t.Payers = slices.Grow(q.t.Payers, 9)
	q.pence = slices.Grow(q.pence, 9)
	q.group = slices.Grow(q.group, 9)
	q.shares = slices.Grow(q.shares, 9)
	q.dues = slices.Grow(q.dues, 9)
	q.d = slices.Grow(q.d, 9)
	return q
}

func TestArgumentsStay(t *testing.T) {
	for _, c := range calls() {
		for _, last := range []int{3, 4} {
			q, before := roomy(), roomy()
			q.pence[0], before.pence[0] = last, last
			if e, _ := c.do(q); last == 3 && e != c.last {
				t.Error(c.name, e)
			}
			if !sameTree(q.t, before.t) || !isZero(q.t.Reaches) || !isZero(q.t.Payers) {
				t.Error(c.name, q.t)
			}
			if !slices.Equal(q.pence, before.pence) || !isZero(q.pence) || !slices.Equal(q.group, before.group) || !isZero(q.group) {
				t.Error(c.name, q.pence, q.group)
			}
			if !slices.Equal(q.shares, before.shares) || !isZero(q.shares) || !slices.Equal(q.dues, before.dues) || !isZero(q.dues) {
				t.Error(c.name, q.shares, q.dues)
			}
			if !sameRows(q.d, before.d) || slices.ContainsFunc(q.d, func(l []int) bool { return !isZero(l) }) {
				t.Error(c.name, q.d)
			}
		}
	}
}

// fill writes into all of a list, and behind it.
func fill[T any](l []T, x T) {
	l = l[:cap(l)]
	for i := range l {
		l[i] = x
	}
}

// A tree that is joined shares nothing with the one that it is made of.
func TestJoinedIsNew(t *testing.T) {
	q := roomy()
	u, _ := levy.Joined(q.t, q.p)
	v, _ := levy.Joined(q.t, payer(8, 1, 1))
	if u.Payers[4] != q.p || v.Payers[4] != payer(8, 1, 1) {
		t.Error(u, v)
	}
	fill(u.Payers, api.Payer{})
	fill(u.Reaches, api.Reach{})
	if !sameTree(q.t, roomy().t) || !isZero(q.t.Payers) || !slices.Equal(v.Reaches, q.t.Reaches) || !slices.Equal(v.Payers[:4], q.t.Payers) {
		t.Error(q.t, v)
	}
}

// Lists of pence, of IDs and of fractions share nothing with arguments, nor with later ones.
func TestResultsAreNew(t *testing.T) {
	q := roomy()
	asked := []int{0, 6, 18, 2}
	for i, find := range []func() []int{
		func() []int { l, _ := levy.Path(q.t, 3); return l },
		func() []int { l, _ := levy.Users(q.t, 0); return l },
		func() []int { l, _ := levy.Used(q.t); return l },
		func() []int { l, _, _ := levy.Objection(q.t, asked); return l },
		func() []int { l, _ := levy.Pence(q.t); return l },
		func() []int { l, _ := levy.Arrears(q.t, q.dues, q.day); return l },
	} {
		a, b := find(), find()
		before := slices.Clone(a)
		fill(a, -9)
		if len(b) == 0 || !slices.Equal(b, before) || !slices.Equal(find(), before) {
			t.Error(i, b, before)
		}
	}
	for i, find := range []func() []api.Ratio{
		func() []api.Ratio { l, _ := levy.Shares(q.t); return l },
		func() []api.Ratio { l, _ := levy.Pieces(q.t, 3); return l },
		func() []api.Ratio { l, _ := levy.Changed(q.t, 1, 8); return l },
	} {
		a, b := find(), find()
		before := slices.Clone(a)
		fill(a, ratio(-9, 9))
		if len(b) == 0 || !slices.Equal(b, before) || !slices.Equal(find(), before) {
			t.Error(i, b, before)
		}
	}
	if !sameTree(q.t, roomy().t) || !slices.Equal(asked, []int{0, 6, 18, 2}) {
		t.Error(q.t, asked)
	}
}

// The lists of a division are each by themselves.
func TestDivisionsAreNew(t *testing.T) {
	q := roomy()
	right, _ := levy.Divide(q.t, q.pence)
	right = copyRows(right)
	for i := range right {
		d, _ := levy.Divide(q.t, q.pence)
		fill(d[i], -9)
		for j, l := range d {
			if i != j && !slices.Equal(l, right[j]) {
				t.Error("shared", i, j, l)
			}
		}
	}
	if d, _ := levy.Divide(q.t, q.pence); !sameRows(d, right) || !slices.Equal(q.pence, roomy().pence) {
		t.Error("kept", d, q.pence)
	}
}
