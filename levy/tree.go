package levy

import (
	"iter"
	"slices"

	"drowner/api"
)

// river stands in the place of the reach above one that begins at the river.
const river = -1

// tree is a valid tree.
type tree api.Tree

// amounts are numbers for all reaches.
type amounts [api.MaxReaches]int

// group is some of the payers, by their IDs.
type group map[int]bool

// up yields a reach, the one above it, and so on up to the river.
func (t tree) up(reach int) iter.Seq[int] {
	return func(yield func(int) bool) {
		for r := reach; r != river; r = t.Reaches[r].Above {
			if !yield(r) {
				return
			}
		}
	}
}

func (t tree) uses(p api.Payer, reach int) bool {
	for r := range t.up(p.Reach) {
		if r == reach {
			return true
		}
	}
	return false
}

// reaches returns the reaches that some payer of a group uses, in increasing order.
func (t tree) reaches(g group) []int {
	var l []int
	for r := range t.Reaches {
		if slices.ContainsFunc(t.Payers, func(p api.Payer) bool { return g[p.ID] && t.uses(p, r) }) {
			l = append(l, r)
		}
	}
	return l
}

// others returns all payers who are not in a group.
func (t tree) others(g group) group {
	out := group{}
	for _, p := range t.Payers {
		if !g[p.ID] {
			out[p.ID] = true
		}
	}
	return out
}

func (t tree) cost(reach int) int { return t.Reaches[reach].Cost }

// alone returns what a group would pay alone.
func (t tree) alone(g group) int { return sum(t.reaches(g), t.cost) }

// whole returns what all payers would pay together.
func (t tree) whole() int { return t.alone(t.others(nil)) }

// saved returns the whole, less what all but a group would pay alone.
func (t tree) saved(g group) int { return t.whole() - t.alone(t.others(g)) }

// at returns the payers whose own reach is one.
func (t tree) at(reach int) []api.Payer {
	return slices.DeleteFunc(slices.Clone(t.Payers), func(p api.Payer) bool { return p.Reach != reach })
}

// gathered returns for each reach what a function makes of it, and of what the reaches next behind it have together.
func (t tree) gathered(of func(reach, behind int) int) amounts {
	var l, behind amounts
	// Each reach has a greater index than the one above it, so that what is behind it is known in time.
	for r, x := range slices.Backward(t.Reaches) {
		l[r] = of(r, behind[r])
		if x.Above != river {
			behind[x.Above] += l[r]
		}
	}
	return l
}

// heads returns the weights of all who use a reach, if those of the reaches next behind it are known.
func (t tree) heads(reach, behind int) int {
	return behind + sum(t.at(reach), func(p api.Payer) int { return p.Weight })
}
