package levy_test

import (
	"testing"

	"drowner/api"
	"drowner/levy"
)

// question is what a function is asked: a tree, and what else there is.
type question struct {
	t            api.Tree
	id, reach    int
	group, pence []int
	shares       []api.Ratio
	d            [][]int
	cost         int
	p            api.Payer
	dues         []api.Due
	day          int
}

// good returns a question with which no function finds an error but CheckObjection.
func good() question {
	return question{
		t: example(), id: 3, reach: 1, group: []int{1, 3}, pence: []int{6, 8, 10, 3}, shares: ratios(6, 8, 10, 3), d: byFour(),
		cost: 8, p: payer(9, 3, 2), dues: []api.Due{due(2, 3, 10)}, day: 5,
	}
}

// bad returns a question in which all but the tree is wrong.
func bad(t api.Tree) question {
	return question{t: t, id: 99, reach: 99, group: []int{99}, pence: []int{-1}, cost: -1, dues: make([]api.Due, 201), day: -1}
}

// call is a function of the chapter; it returns the error, and whether all else is zero.
type call struct {
	name                          string
	id, reach, group, pence, dues bool // what it has
	last                          api.Errno
	do                            func(q question) (api.Errno, bool)
}

func bare(e api.Errno) (api.Errno, bool) { return e, true }

func list[T any](l []T, e api.Errno) (api.Errno, bool) { return e, len(l) == 0 }

func one[T comparable](x T, e api.Errno) (api.Errno, bool) {
	var zero T
	return e, x == zero
}

func calls() []call {
	return []call{
		{name: "Check", do: func(q question) (api.Errno, bool) { return bare(levy.Check(q.t)) }},
		{name: "Path", id: true, do: func(q question) (api.Errno, bool) { return list(levy.Path(q.t, q.id)) }},
		{name: "Users", reach: true, do: func(q question) (api.Errno, bool) { return list(levy.Users(q.t, q.reach)) }},
		{name: "Used", do: func(q question) (api.Errno, bool) { return list(levy.Used(q.t)) }},
		{name: "Alone", group: true, do: func(q question) (api.Errno, bool) { return one(levy.Alone(q.t, q.group)) }},
		{name: "Saved", group: true, do: func(q question) (api.Errno, bool) { return one(levy.Saved(q.t, q.group)) }},
		{name: "Shares", do: func(q question) (api.Errno, bool) { return list(levy.Shares(q.t)) }},
		{name: "Pieces", id: true, do: func(q question) (api.Errno, bool) { return list(levy.Pieces(q.t, q.id)) }},
		{name: "CheckShares", do: func(q question) (api.Errno, bool) { return bare(levy.CheckShares(q.t, q.shares)) }},
		{name: "Objection", pence: true, do: func(q question) (api.Errno, bool) {
			g, n, e := levy.Objection(q.t, q.pence)
			return e, len(g) == 0 && n == 0
		}},
		{name: "CheckObjection", group: true, pence: true, last: api.ErrProof, do: func(q question) (api.Errno, bool) {
			return one(levy.CheckObjection(q.t, q.pence, q.group))
		}},
		{name: "Fair", pence: true, do: func(q question) (api.Errno, bool) { return one(levy.Fair(q.t, q.pence)) }},
		{name: "Divide", pence: true, do: func(q question) (api.Errno, bool) { return list(levy.Divide(q.t, q.pence)) }},
		{name: "CheckDivide", pence: true, do: func(q question) (api.Errno, bool) { return bare(levy.CheckDivide(q.t, q.pence, q.d)) }},
		{name: "Pence", do: func(q question) (api.Errno, bool) { return list(levy.Pence(q.t)) }},
		{name: "Most", id: true, do: func(q question) (api.Errno, bool) { return one(levy.Most(q.t, q.id)) }},
		{name: "Least", id: true, do: func(q question) (api.Errno, bool) { return one(levy.Least(q.t, q.id)) }},
		{name: "Changed", reach: true, do: func(q question) (api.Errno, bool) { return list(levy.Changed(q.t, q.reach, q.cost)) }},
		{name: "Joined", do: func(q question) (api.Errno, bool) {
			t, e := levy.Joined(q.t, q.p)
			return e, sameTree(t, api.Tree{})
		}},
		{name: "Arrears", dues: true, do: func(q question) (api.Errno, bool) { return list(levy.Arrears(q.t, q.dues, q.day)) }},
		{name: "Purse", dues: true, do: func(q question) (api.Errno, bool) { return one(levy.Purse(q.t, q.dues, q.day)) }},
	}
}

// wrong fails a test unless a function returns an error, and nothing else.
func wrong(t *testing.T, c call, q question, wanted api.Errno) {
	t.Helper()
	if e, zero := c.do(q); e != wanted || !zero {
		t.Error(c.name, q, e, wanted, zero)
	}
}

func TestLastErrors(t *testing.T) {
	for _, c := range calls() {
		if e, zero := c.do(good()); e != c.last || e != api.OK && !zero {
			t.Error(c.name, e, zero)
		}
	}
}

// The error of the tree comes first, whatever else is wrong.
func TestTreesFirst(t *testing.T) {
	for _, c := range calls() {
		for _, x := range badTrees() {
			q := good()
			q.t = x.t
			wrong(t, c, q, x.want)
			wrong(t, c, bad(x.t), x.want)
		}
	}
}

// Then those of IDs, of reaches, of pence, of groups, and of payments, whatever else is wrong.
func TestArgumentsNext(t *testing.T) {
	for _, c := range calls() {
		q := bad(example())
		switch {
		case c.id, c.reach:
			wrong(t, c, q, api.ErrNone)
		case c.pence, c.group:
			wrong(t, c, q, api.ErrArg)
		case c.dues:
			wrong(t, c, q, api.ErrLimit)
		}
	}
}

// Each of these is looked for by itself.
func TestEachArgument(t *testing.T) {
	for _, c := range calls() {
		for _, n := range []int{-1 << 63, -1, 0, 5, 1 << 41, 1<<63 - 1} {
			q := good()
			q.id = n
			if c.id {
				wrong(t, c, q, api.ErrNone)
			}
		}
		for _, n := range []int{-1 << 63, -1, 4, 24, 1<<63 - 1} {
			q := good()
			q.reach = n
			if c.reach {
				wrong(t, c, q, api.ErrNone)
			}
		}
		for _, l := range [][]int{nil, {}, {6, 8, 10}, {6, 8, 10, 3, 0}, {6, 8, 10, -1}, {-1 << 63, 8, 10, 3}, {6, 8, 1<<30 + 1, 3}, {6, 8, 10, 1<<63 - 1}} {
			q := good()
			q.pence = l
			if c.pence {
				wrong(t, c, q, api.ErrArg)
			}
		}
		for _, l := range [][]int{{3, 1}, {1, 1}, {0}, {1, 5}, {-1, 1}, {1, 2, 3, 4, 5}, {1, 2, 2, 3}, {1 << 41}} {
			q := good()
			q.group = l
			if c.group {
				wrong(t, c, q, api.ErrArg)
			}
		}
		for _, x := range badDues() {
			q := good()
			q.dues, q.day = x.l, x.day
			if c.dues {
				wrong(t, c, q, x.want)
			}
		}
	}
}

// What other functions have is nothing to those that have not.
func TestOnlyItsOwn(t *testing.T) {
	for _, c := range calls() {
		q, x := good(), bad(example())
		if !c.id {
			q.id = x.id
		}
		if !c.reach {
			q.reach, q.cost = x.reach, x.cost
		}
		if !c.group {
			q.group = x.group
		}
		if !c.pence {
			q.pence, q.d = x.pence, x.d
		}
		if !c.dues {
			q.dues, q.day = x.dues, x.day
		}
		if e, _ := c.do(q); e != c.last {
			t.Error(c.name, e)
		}
	}
}
