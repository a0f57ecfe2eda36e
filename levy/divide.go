package levy

import (
	"maps"
	"slices"

	"drowner/api"
)

// Divide returns, for pence in the core, how each reach is paid by its users.
func Divide(t api.Tree, pence []int) ([][]int, api.Errno) {
	c, e := claimOf(t, pence)
	if e != api.OK {
		return nil, e
	}
	if !c.isFair() {
		return nil, api.ErrClash
	}
	return c.divide(), api.OK
}

// divide lets those who use a reach pay it in order, each as much as it has left. A reach comes ahead of that above it: all who use it use that one, too, so that there it does not matter which of them has paid.
func (c claim) divide() [][]int {
	d := make([][]int, len(c.Reaches))
	left := maps.Clone(c.asked)
	for r, x := range slices.Backward(c.Reaches) {
		due := x.Cost
		for _, p := range c.Payers {
			n := 0
			if c.uses(p, r) {
				n = min(due, left[p.ID])
			}
			d[r] = append(d[r], n)
			due -= n
			left[p.ID] -= n
		}
	}
	return d
}

// CheckDivide returns OK if a division shows that pence are in the core.
func CheckDivide(t api.Tree, pence []int, d [][]int) api.Errno {
	c, e := claimOf(t, pence)
	if e != api.OK {
		return e
	}
	if !c.isDivided(d) {
		return api.ErrProof
	}
	return api.OK
}

// isDivided reports whether a division is one of what is asked.
func (c claim) isDivided(d [][]int) bool {
	if len(d) != len(c.Reaches) {
		return false
	}
	for r, l := range d {
		if !c.isPaid(r, l) {
			return false
		}
	}
	for i, p := range c.Payers {
		if sum(d, func(l []int) int { return l[i] }) != c.of(p) {
			return false
		}
	}
	return true
}

// isPaid reports whether those who use a reach pay it, and nobody else does.
func (t tree) isPaid(reach int, l []int) bool {
	if len(l) != len(t.Payers) {
		return false
	}
	due, paid := 0, 0
	for i, p := range t.Payers {
		most := 0
		if t.uses(p, reach) {
			due = t.cost(reach)
			most = due
		}
		// Nobody pays more than the Cost, so that no sum leaves the range of int.
		if !isFrom(0, most, l[i]) {
			return false
		}
		paid += l[i]
	}
	return paid == due
}

// Pence returns the shares in whole pence, in the core.
func Pence(t api.Tree) ([]int, api.Errno) {
	if e := Check(t); e != api.OK {
		return nil, e
	}
	return tree(t).fairPence(), api.OK
}

// fairPence returns the greatest list of fair pence that differ from the shares by less than 1 each. It raises the shares, rounded down, in order. While no group pays too much, those behind can be raised until all is paid, none of them above its share rounded up.
func (t tree) fairPence() []int {
	c := claim{tree: t, asked: map[int]int{}}
	shares := t.shares(t.cost)
	for i, p := range t.Payers {
		c.asked[p.ID] = shares[i].Num / shares[i].Den
	}
	for i, p := range t.Payers {
		if shares[i].Den == 1 {
			continue
		}
		c.asked[p.ID]++
		if len(c.objection()) > 0 {
			c.asked[p.ID]--
		}
	}
	return c.pence()
}
