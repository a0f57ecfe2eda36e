package levy

import (
	"maps"
	"slices"

	"drowner/api"
)

// maxPence is the most that may be asked of one payer, and that one payment may be.
const maxPence = 1 << 30

// claim is what is asked of the payers of a valid tree, by their IDs.
type claim struct {
	tree
	asked map[int]int
}

// claimOf returns what pence ask; the error is that of the tree, then ErrArg if they are no pence.
func claimOf(t api.Tree, pence []int) (claim, api.Errno) {
	if e := Check(t); e != api.OK {
		return claim{}, e
	}
	if len(pence) != len(t.Payers) {
		return claim{}, api.ErrArg
	}
	c := claim{tree: tree(t), asked: map[int]int{}}
	for i, p := range t.Payers {
		if !isFrom(0, maxPence, pence[i]) {
			return claim{}, api.ErrArg
		}
		c.asked[p.ID] = pence[i]
	}
	return c, api.OK
}

// of returns what is asked of a payer.
func (c claim) of(p api.Payer) int { return c.asked[p.ID] }

// pence returns what is asked of all payers, in order.
func (c claim) pence() []int {
	l := make([]int, 0, len(c.Payers))
	for _, p := range c.Payers {
		l = append(l, c.of(p))
	}
	return l
}

// over returns by how much a group pays more than it would alone, less than 0 if it pays less.
func (c claim) over(g group) int {
	return sum(slices.Collect(maps.Keys(g)), func(id int) int { return c.asked[id] }) - c.alone(g)
}

// excess returns by how much, at most, some users of a reach pay more than those reaches cost that they use from it on, if this is known of the reaches next behind it; 0 if nobody pays more.
func (c claim) excess(reach, behind int) int {
	return max(0, behind+sum(c.at(reach), c.of)-c.cost(reach))
}

// objection returns the group that pays too much by the most, of several ones that with the fewest payers, and nobody if no group does.
func (c claim) objection() group {
	excess := c.gathered(c.excess)
	g := group{}
search:
	for _, p := range c.Payers {
		if c.of(p) == 0 {
			continue
		}
		// Users of such a reach pay no more than they would cost the group.
		for r := range c.up(p.Reach) {
			if excess[r] == 0 {
				continue search
			}
		}
		g[p.ID] = true
	}
	return g
}

func (c claim) isFair() bool {
	return sum(c.Payers, c.of) == c.whole() && len(c.objection()) == 0
}
