package levy

import (
	"slices"

	"drowner/api"
)

// Shares returns what each user pays, exactly.
func Shares(t api.Tree) ([]api.Ratio, api.Errno) {
	if e := Check(t); e != api.OK {
		return nil, e
	}
	return tree(t).shares(tree(t).cost), api.OK
}

// shares returns the shares of all payers, if a function tells the costs.
func (t tree) shares(cost func(reach int) int) []api.Ratio {
	l := make([]api.Ratio, 0, len(t.Payers))
	for _, p := range t.Payers {
		share := lowest(0, 1)
		for _, x := range t.pieces(p, cost) {
			share = plus(share, x)
		}
		l = append(l, share)
	}
	return l
}

// Pieces returns what a user pays of each reach.
func Pieces(t api.Tree, id int) ([]api.Ratio, api.Errno) {
	p, e := payerOf(t, id)
	if e != api.OK {
		return nil, e
	}
	return tree(t).pieces(p, tree(t).cost), api.OK
}

// pieces returns what a payer pays of each reach, if a function tells the costs.
func (t tree) pieces(p api.Payer, cost func(reach int) int) []api.Ratio {
	heads := t.gathered(t.heads)
	l := make([]api.Ratio, 0, len(t.Reaches))
	for r := range t.Reaches {
		piece := lowest(0, 1)
		if t.uses(p, r) {
			piece = lowest(cost(r)*p.Weight, heads[r])
		}
		l = append(l, piece)
	}
	return l
}

// CheckShares returns OK if shares are those of the users.
func CheckShares(t api.Tree, l []api.Ratio) api.Errno {
	right, e := Shares(t)
	if e != api.OK {
		return e
	}
	if !slices.Equal(l, right) {
		return api.ErrProof
	}
	return api.OK
}

// Changed returns by how much each user pays more if a reach costs another sum.
func Changed(t api.Tree, reach, cost int) ([]api.Ratio, api.Errno) {
	if e := checkReach(t, reach); e != api.OK {
		return nil, e
	}
	if !isFrom(0, api.MaxCost, cost) {
		return nil, api.ErrArg
	}
	// A share is a sum of costs times what does not change, so that what is more is shared as the costs are.
	more := func(r int) int {
		if r != reach {
			return 0
		}
		return cost - t.Reaches[r].Cost
	}
	return tree(t).shares(more), api.OK
}

// plus returns the sum of a share, or a part of one, and a piece. The denominator of a piece is 24 at most, that of a share divides 5354228880, which all numbers up to 24 divide; so no number on the way exceeds 2^58.
func plus(share, piece api.Ratio) api.Ratio {
	return lowest(share.Num*piece.Den+piece.Num*share.Den, share.Den*piece.Den)
}

// lowest returns a fraction in lowest terms.
func lowest(num, den int) api.Ratio {
	a, b := den, max(num, -num)
	for b != 0 {
		a, b = b, a%b
	}
	return api.Ratio{Num: num / a, Den: den / a}
}
