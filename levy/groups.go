package levy

import (
	"maps"
	"slices"

	"drowner/api"
)

// groupOf returns a group that a list tells; the error is that of the tree, then ErrArg if the list is no group.
func groupOf(t api.Tree, ids []int) (group, api.Errno) {
	if e := Check(t); e != api.OK {
		return nil, e
	}
	all := tree(t).others(nil)
	g := group{}
	for i, id := range ids {
		if !all[id] || i > 0 && id <= ids[i-1] {
			return nil, api.ErrArg
		}
		g[id] = true
	}
	return g, api.OK
}

// Alone returns what a group would have to pay alone.
func Alone(t api.Tree, group []int) (int, api.Errno) {
	g, e := groupOf(t, group)
	if e != api.OK {
		return 0, e
	}
	return tree(t).alone(g), api.OK
}

// Saved returns what a group saves the others: what all cost less what the others would cost alone.
func Saved(t api.Tree, group []int) (int, api.Errno) {
	g, e := groupOf(t, group)
	if e != api.OK {
		return 0, e
	}
	return tree(t).saved(g), api.OK
}

// Most returns the most that a user can pay in the core.
func Most(t api.Tree, id int) (int, api.Errno) {
	if _, e := payerOf(t, id); e != api.OK {
		return 0, e
	}
	// Who comes first of all pays that much by P8.13, and alone nobody may pay more.
	return tree(t).alone(group{id: true}), api.OK
}

// Least returns the least that a user can pay in the core.
func Least(t api.Tree, id int) (int, api.Errno) {
	if _, e := payerOf(t, id); e != api.OK {
		return 0, e
	}
	// Who comes last of all pays that much by P8.13, and all others together may not pay more than the rest.
	return tree(t).saved(group{id: true}), api.OK
}

// Objection returns the group that pays the most more than it would alone.
func Objection(t api.Tree, pence []int) ([]int, int, api.Errno) {
	c, e := claimOf(t, pence)
	if e != api.OK {
		return nil, 0, e
	}
	g := c.objection()
	return slices.Sorted(maps.Keys(g)), c.over(g), api.OK
}

// CheckObjection returns by how much a group pays more than it would alone.
func CheckObjection(t api.Tree, pence, group []int) (int, api.Errno) {
	c, e := claimOf(t, pence)
	if e != api.OK {
		return 0, e
	}
	g, e := groupOf(t, group)
	if e != api.OK {
		return 0, e
	}
	n := c.over(g)
	if n < 1 {
		return 0, api.ErrProof
	}
	return n, api.OK
}

// Fair reports whether pence are in the core.
func Fair(t api.Tree, pence []int) (bool, api.Errno) {
	c, e := claimOf(t, pence)
	if e != api.OK {
		return false, e
	}
	return c.isFair(), api.OK
}
