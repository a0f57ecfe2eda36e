package fair_test

import (
	"testing"

	"drowner/api"
	"drowner/fair"
)

// question is what a function is asked: a pool, sharings of it, and what else there is.
type question struct {
	p            api.Pool
	a, b         []int
	slot, tenant int
	chain        []api.Shift
}

// good returns a question with which no function finds an error.
func good() question {
	return question{p: example(), a: fairly(), b: fairly(), slot: 12, tenant: 2}
}

// call is a function of the chapter; it returns the error, and whether all else is zero.
type call struct {
	name                    string
	given, two, slot, asked bool // whether it has one sharing, another one, a slot, a tenant
	do                      func(q question) (api.Errno, bool)
}

func list[T any](l []T, e api.Errno) (api.Errno, bool) { return e, len(l) == 0 }

func one[T comparable](x T, e api.Errno) (api.Errno, bool) {
	var zero T
	return e, x == zero
}

func whole(p api.Pool, e api.Errno) (api.Errno, bool) { return e, samePool(p, api.Pool{}) }

func bare(e api.Errno) (api.Errno, bool) { return e, true }

func calls() []call {
	return []call{
		{"Check", false, false, false, false, func(q question) (api.Errno, bool) { return bare(fair.Check(q.p)) }},
		{"CheckGiven", true, false, false, false, func(q question) (api.Errno, bool) { return bare(fair.CheckGiven(q.p, q.a)) }},
		{"Counts", true, false, false, false, func(q question) (api.Errno, bool) { return list(fair.Counts(q.p, q.a)) }},
		{"Compare", true, true, false, false, func(q question) (api.Errno, bool) { return one(fair.Compare(q.p, q.a, q.b)) }},
		{"Fairest", false, false, false, false, func(q question) (api.Errno, bool) {
			f, e := fair.Fairest(q.p)
			return e, len(f.Given)+len(f.Labels) == 0
		}},
		{"CheckFair", false, false, false, false, func(q question) (api.Errno, bool) {
			return bare(fair.CheckFair(q.p, api.Fair{Given: fairly(), Labels: []int{1, 1, 1}}))
		}},
		{"Ladder", false, false, false, false, func(q question) (api.Errno, bool) { return list(fair.Ladder(q.p)) }},
		{"Chain", true, false, false, false, func(q question) (api.Errno, bool) {
			l, is, e := fair.Chain(q.p, q.a)
			return e, len(l) == 0 && !is
		}},
		{"CheckChain", true, false, false, false, func(q question) (api.Errno, bool) { return bare(fair.CheckChain(q.p, q.a, q.chain)) }},
		{"Apply", true, false, false, false, func(q question) (api.Errno, bool) { return list(fair.Apply(q.p, q.a, q.chain)) }},
		{"Envy", true, false, false, false, func(q question) (api.Errno, bool) {
			x, is, e := fair.Envy(q.p, q.a)
			return e, x == api.Shift{} && !is
		}},
		{"Spread", false, false, false, true, func(q question) (api.Errno, bool) { return one(fair.Spread(q.p, q.tenant)) }},
		{"Could", false, false, true, true, func(q question) (api.Errno, bool) { return one(fair.Could(q.p, q.slot, q.tenant)) }},
		{"Surely", false, false, false, false, func(q question) (api.Errno, bool) { return list(fair.Surely(q.p)) }},
		{"Mended", true, false, true, false, func(q question) (api.Errno, bool) { return list(fair.Mended(q.p, q.a, q.slot)) }},
		{"Without", false, false, false, false, func(q question) (api.Errno, bool) { return whole(fair.Without(q.p, []int{12})) }},
		{"Absent", false, false, false, true, func(q question) (api.Errno, bool) { return whole(fair.Absent(q.p, q.tenant)) }},
	}
}

// wrong fails a test unless a function returns an error, and nothing else.
func wrong(t *testing.T, c call, q question, wanted api.Errno) {
	t.Helper()
	if e, zero := c.do(q); e != wanted || !zero {
		t.Error(c.name, q, e, wanted, zero)
	}
}

// proof returns the error of a function with which nothing else is wrong: that of a chain of no shifts.
func (c call) proof() api.Errno {
	if c.name == "CheckChain" || c.name == "Apply" {
		return api.ErrProof
	}
	return api.OK
}

func TestNoErrors(t *testing.T) {
	for _, c := range calls() {
		if e, _ := c.do(good()); e != c.proof() {
			t.Error(c.name, e)
		}
	}
}

// The error of the pool comes first, whatever else is wrong.
func TestPoolsFirst(t *testing.T) {
	for _, c := range calls() {
		for _, x := range badPools() {
			q := good()
			q.p = x.p
			wrong(t, c, q, x.want)
			wrong(t, c, question{p: x.p, a: []int{9}, b: []int{9}, slot: -1, tenant: -1, chain: make([]api.Shift, 13)}, x.want)
		}
	}
}

// Then that of the sharings, in their order.
func TestSharingsNext(t *testing.T) {
	for _, c := range calls() {
		for _, l := range [][]int{nil, {2, 1, 1, 2}, {2, 1, 1, 2, 3, 0}, {2, 2, 1, 2, 3}, {2, 1, 1, 3, 3}, {2, 1, 1, 2, 4}, {-1, 1, 1, 2, 3}} {
			q := good()
			q.a = l
			if c.given {
				wrong(t, c, q, api.ErrArg)
				q.slot, q.chain = 99, make([]api.Shift, 13)
				wrong(t, c, q, api.ErrArg)
			}
			q = good()
			q.b = l
			if c.two {
				wrong(t, c, q, api.ErrArg)
			}
		}
	}
}

// Then that of the slot, then that of the tenant, which may be 0 for Could only.
func TestIDsNext(t *testing.T) {
	for _, c := range calls() {
		for _, id := range []int{-1, 0, 1, 16, 1 << 50} {
			q := good()
			q.slot = id
			if c.slot {
				wrong(t, c, q, api.ErrNone)
			}
		}
		for _, id := range []int{-1, 0, 4, 12, 1 << 50} {
			q := good()
			q.tenant = id
			if !c.asked {
				continue
			}
			if id == 0 && c.name == "Could" {
				e, _ := c.do(q)
				want(t, c.name, e, api.OK)
				continue
			}
			wrong(t, c, q, api.ErrNone)
		}
	}
	q := good()
	q.a = []int{1, 1, 1, 2, 3}
	q.slot = 99
	for _, c := range calls() {
		if c.name == "Mended" {
			wrong(t, c, q, api.ErrNone)
			q.slot = 11
			wrong(t, c, q, api.ErrState)
		}
	}
}

// A pool may have nothing of a kind.
func TestEmpty(t *testing.T) {
	for _, p := range []api.Pool{{}, pool(many(12, 0)), pool(nil, slots(40)...)} {
		g := make([]int, len(p.Slots))
		for _, c := range calls() {
			wanted := c.proof()
			if c.name == "CheckFair" {
				wanted = api.ErrProof
			}
			if e, _ := c.do(question{p: p, a: g, b: g, slot: 1, tenant: 1}); e != wanted && e != api.ErrNone || e == api.ErrNone && !c.slot && !c.asked {
				t.Error(c.name, p, e, wanted)
			}
		}
	}
}
