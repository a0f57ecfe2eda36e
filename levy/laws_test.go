package levy_test

import (
	"math/big"
	"math/rand/v2"
	"slices"
	"testing"

	"drowner/api"
	"drowner/levy"
)

// P8.10: all Pence are together the whole, as all shares are (TestShares, where pieces are together a share, too). P8.11: Pence are fair, and no group's shares are together more than it would pay alone, nor less than it saves.
func TestNobodyPaysTooMuch(t *testing.T) {
	bound := 0
	large(60, 150, func(r *rand.Rand, w api.Tree) {
		l, e := levy.Pence(w)
		is, f := levy.Fair(w, l)
		if total(l) != wholeOf(w) || !is || e != api.OK || f != api.OK {
			t.Fatal(w, l, is, e, f)
		}
		shares, _ := levy.Shares(w)
		for range 5 {
			g := anyGroup(r, w)
			together := new(big.Rat)
			for i, p := range w.Payers {
				if slices.Contains(g, p.ID) {
					together.Add(together, rat(shares[i]))
				}
			}
			alone, _ := levy.Alone(w, g)
			saved, _ := levy.Saved(w, g)
			if together.Cmp(rat(ratio(alone, 1))) > 0 || together.Cmp(rat(ratio(saved, 1))) < 0 {
				t.Fatal(w, g, together, alone, saved)
			}
			if n := askedOf(w, l, g); n > alone || n < saved {
				t.Fatal(w, g, l, n, alone, saved)
			}
			if saved < alone {
				bound++
			}
		}
	})
	if bound < 200 {
		t.Error("only", bound)
	}
}

// P8.11: CheckObjection accepts what Objection returns, and no group pays too much by more; if it accepts any group, pence are not fair.
func TestObjectionsHold(t *testing.T) {
	accepted := 0
	large(61, 300, func(r *rand.Rand, w api.Tree) {
		pence := anyPence(r, w)
		g, most, _ := levy.Objection(w, pence)
		is, _ := levy.Fair(w, pence)
		if n, e := levy.CheckObjection(w, pence, g); most > 0 && (n != most || e != api.OK) || most == 0 && e != api.ErrProof {
			t.Fatal(w, pence, g, most, n, e)
		}
		for i := range 20 {
			other := anyGroup(r, w)
			if i%2 == 0 { // one that is nearly the same
				other = slices.DeleteFunc(everybody(w), func(id int) bool { return slices.Contains(g, id) == (r.IntN(9) == 0) })
			}
			n, e := levy.CheckObjection(w, pence, other)
			if n > most || e == api.OK && is {
				t.Fatal(w, pence, other, n, most, is)
			}
			if e == api.OK {
				accepted++
			}
		}
	})
	if accepted < 200 {
		t.Error("only", accepted)
	}
}

// P8.12: CheckDivide accepts what Divide returns; if it accepts any division, the pence are fair, and no group pays too much.
func TestDivisionsHold(t *testing.T) {
	large(62, 200, func(r *rand.Rand, w api.Tree) {
		other := anyDivision(r, w)
		pence := dividedBy(w, other)
		d, e := levy.Divide(w, pence)
		is, f := levy.Fair(w, pence)
		g, n, h := levy.Objection(w, pence)
		if !is || len(g) > 0 || n != 0 || e != api.OK || f != api.OK || h != api.OK {
			t.Fatal(w, pence, is, g, n, e, f, h)
		}
		want(t, "another division", levy.CheckDivide(w, pence, other), api.OK)
		want(t, "the division", levy.CheckDivide(w, pence, d), api.OK)
	})
}

// P8.13: if payers come one after the other, and each one pays what the group with it would pay alone more than without it, the pence are fair; the first one pays Most, the last one Least. All fair pence lie between.
func TestOrders(t *testing.T) {
	large(63, 100, func(r *rand.Rand, w api.Tree) {
		pence := make([]int, len(w.Payers))
		order := r.Perm(len(w.Payers))
		var here []int
		before := 0
		for _, i := range order {
			here = append(here, w.Payers[i].ID)
			slices.Sort(here)
			n, _ := levy.Alone(w, here)
			pence[i] = n - before
			before = n
		}
		if is, e := levy.Fair(w, pence); !is || e != api.OK {
			t.Fatal(w, order, pence, e)
		}
		others := [][]int{pence, anyFair(r, w), anyFair(r, w)}
		for i, p := range w.Payers {
			most, _ := levy.Most(w, p.ID)
			least, _ := levy.Least(w, p.ID)
			if i == order[0] && pence[i] != most || i == order[len(order)-1] && pence[i] != least {
				t.Fatal(w, order, pence, i, most, least)
			}
			for _, l := range others {
				if l[i] < least || l[i] > most {
					t.Fatal(w, l, i, most, least)
				}
			}
		}
	})
}

// P8.14: with a further payer no share of the others is greater. (That no share is less if a reach costs more is in TestChanged.)
func TestOneMore(t *testing.T) {
	less := 0
	large(64, 600, func(r *rand.Rand, w api.Tree) {
		u, e := levy.Joined(w, payer(1000, r.IntN(len(w.Reaches)+1), 1+r.IntN(3)))
		if e != api.OK {
			return
		}
		now, _ := levy.Shares(w)
		then, _ := levy.Shares(u)
		for i := range now {
			if x := rat(now[i]).Cmp(rat(then[i])); x < 0 {
				t.Fatal(w, u, now[i], then[i])
			} else if x > 0 {
				less++
			}
		}
	})
	if less < 200 {
		t.Error("only", less)
	}
}

// P8.15: two payers at the same reach, with the same weight, have the same share; a payer of the weight 2 has as much as two of the weight 1 in its place together.
func TestWeights(t *testing.T) {
	same, split := 0, 0
	large(65, 300, func(r *rand.Rand, w api.Tree) {
		shares, _ := levy.Shares(w)
		for i, p := range w.Payers {
			for j, q := range w.Payers {
				if i != j && p.Reach == q.Reach && p.Weight == q.Weight {
					same++
					if shares[i] != shares[j] {
						t.Fatal(w, p, q, shares[i], shares[j])
					}
				}
			}
			if p.Weight != 2 || len(w.Payers) == api.MaxUsers {
				continue
			}
			split++
			two, e := levy.Shares(with(w, func(t *api.Tree) {
				t.Payers[i].Weight = 1
				t.Payers = append(t.Payers, payer(1000, p.Reach, 1))
			}))
			last := len(w.Payers)
			if e != api.OK || sumOf([]api.Ratio{two[i], two[last]}).Cmp(rat(shares[i])) != 0 {
				t.Fatal(w, p, shares[i], two, e)
			}
			for j, x := range two[:last] {
				if i != j && x != shares[j] {
					t.Fatal(w, p, j, shares[j], x)
				}
			}
		}
	})
	if same < 100 || split < 100 {
		t.Error("only", same, split)
	}
}

// What is asked twice is told in the same way (R7), and the order of the payers matters for nothing but that of the lists, and for Pence.
func TestSameAgain(t *testing.T) {
	large(66, 40, func(r *rand.Rand, w api.Tree) {
		pence := anyPence(r, w)
		order := r.Perm(len(w.Payers))
		v := with(w, func(t *api.Tree) { t.Payers = nil })
		var asked []int
		for _, i := range order {
			v.Payers = append(v.Payers, w.Payers[i])
			asked = append(asked, pence[i])
		}
		g, n, _ := levy.Objection(w, pence)
		a, _ := levy.Pence(w)
		d, _ := levy.Divide(w, a)
		shares, _ := levy.Shares(w)
		for range 3 {
			h, m, _ := levy.Objection(v, asked)
			b, _ := levy.Pence(w)
			f, _ := levy.Divide(w, b)
			if !slices.Equal(g, h) || n != m || !slices.Equal(a, b) || !sameRows(d, f) {
				t.Fatal(w, pence, g, h, n, m, a, b)
			}
		}
		moved, _ := levy.Shares(v)
		for j, i := range order {
			if shares[i] != moved[j] {
				t.Fatal(w, v, shares, moved)
			}
		}
	})
}
