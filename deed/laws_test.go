package deed_test

import (
	"math/big"
	"math/rand/v2"
	"slices"
	"testing"

	"drowner/api"
	"drowner/deed"
)

// The consequences of the chapter, P5.10 to P5.15; P5.9 stands with the texts.

// P5.10: the parts of a turn follow each other, and each minute has one user.
func TestOneUserEach(t *testing.T) {
	check := func(r *rand.Rand, l []api.Deed, day, known int) {
		turns, _ := deed.Turns(l, day, known)
		for _, turn := range turns {
			parts, e := deed.Parts(l, turn, day, known)
			if e != api.OK || parts[0].From != ratio(0, 1) || parts[len(parts)-1].To != ratio(1, 1) {
				t.Fatal(parts, e)
			}
			for i, p := range parts {
				if less, e := deed.Less(p.From, p.To); e != api.OK || !less || i > 0 && (p.From != parts[i-1].To || whose(p) == whose(parts[i-1])) {
					t.Fatal(parts, less, e)
				}
				if p.Forfeited != (p.User == "common") {
					t.Fatal(p)
				}
			}
			long := 1 + r.IntN(400)
			users := make([]int, long)
			persons, _ := deed.Persons(l, day, known)
			for _, name := range append(persons, "common") {
				minutes, _ := deed.Minutes(l, turn, name, long, day, known)
				for _, x := range minutes {
					for n := x.Lo; n <= x.Hi; n++ {
						users[n]++
						if user, _ := deed.User(l, turn, n, long, day, known); user != name {
							t.Fatal(n, user, name)
						}
					}
				}
			}
			if slices.ContainsFunc(users, func(n int) bool { return n != 1 }) {
				t.Fatal(textOf(l), turn, day, known, long, users)
			}
		}
	}
	each(40, 150, 30, 3, check)
	each(41, 50, 30, 100, check)
}

// P5.11: what all persons own, with what is forfeited, and what all use, with common, is each turn as a whole.
func TestWholeTurns(t *testing.T) {
	each(42, 1500, 25, 4, func(_ *rand.Rand, l []api.Deed, day, known int) {
		turns, _ := deed.Turns(l, day, known)
		persons, _ := deed.Persons(l, day, known)
		owned, used := map[string]*big.Rat{}, map[string]*big.Rat{}
		for _, turn := range turns {
			owned[turn], used[turn] = new(big.Rat), new(big.Rat)
		}
		for _, name := range append(persons, "common") {
			holdings, e := deed.Holdings(l, name, day, known)
			if e == api.ErrRange {
				return // then nothing is told of the whole
			}
			for _, h := range holdings {
				owned[h.Turn].Add(owned[h.Turn], rat(h.Owns))
				used[h.Turn].Add(used[h.Turn], rat(h.Has))
				if name == "common" { // what it has is what is forfeited
					owned[h.Turn].Add(owned[h.Turn], rat(h.Has))
				}
			}
		}
		for _, turn := range turns {
			if whole := big.NewRat(1, 1); owned[turn].Cmp(whole) != 0 || used[turn].Cmp(whole) != 0 {
				t.Fatal(textOf(l), turn, day, known, owned[turn], used[turn])
			}
		}
	})
}

// told returns all that is told of deeds as known on a day, but for their indices.
func told(l []api.Deed, day, known int) []any {
	turns, _ := deed.Turns(l, day, known)
	persons, _ := deed.Persons(l, day, known)
	var all []any
	for _, s := range slices.Concat(turns, persons) {
		all = append(all, s)
	}
	for _, turn := range turns {
		parts, _ := deed.Parts(l, turn, day, known)
		for _, p := range parts {
			all = append(all, p)
		}
	}
	return all
}

// P5.12: what is known on a day does not change with what comes to be known later, nor with later deeds; what is void may be left out.
func TestKnown(t *testing.T) {
	each(43, 1500, 25, 4, func(_ *rand.Rand, l []api.Deed, day, known int) {
		before := told(l, day, known)
		counted := slices.DeleteFunc(slices.Clone(l), func(d api.Deed) bool { return d.Known > known || d.Day > day })
		if !slices.Equal(before, told(counted, day, known)) {
			t.Fatal(textOf(l), day, known)
		}
		void, _ := deed.Void(l, day, known)
		left := slices.Clone(l)
		for _, i := range slices.Backward(void) {
			left = without(left, i)
		}
		if none, e := deed.Void(left, day, known); e != api.OK || len(none) > 0 || !slices.Equal(before, told(left, day, known)) {
			t.Fatal(textOf(l), day, known, void, none)
		}
	})
}

// P5.13: a chain leads to the owner, and, of the deeds of other turns, none matters.
func TestChainsLead(t *testing.T) {
	each(44, 800, 25, 4, func(r *rand.Rand, l []api.Deed, day, known int) {
		p := ratio(r.IntN(11), 11)
		if p.Num == 0 {
			p.Den = 1
		}
		at, e := deed.At(l, "a", p, day, known)
		chain, f := deed.Chain(l, "a", p, day, known)
		if e != f || e != api.OK {
			want(t, "Chain", f, e)
			return
		}
		if owner, e := deed.CheckChain(l, "a", p, chain); e != api.OK || owner != at.Owner {
			t.Fatal(textOf(l), p, day, known, chain, owner, e)
		}
		for i, d := range l {
			if d.Turn == "a" || slices.Contains(chain, i) {
				continue
			}
			if x, e := deed.At(without(l, i), "a", p, day, known); e != api.OK || x != at {
				t.Fatal(textOf(l), p, day, known, i, x, at)
			}
		}
	})
}

// P5.15: later deeds may be cut off, and those of other turns be there or not.
func TestGoingOn(t *testing.T) {
	each(45, 1500, 25, 4, func(r *rand.Rand, l []api.Deed, day, known int) {
		upTo := slices.DeleteFunc(slices.Clone(l), func(d api.Deed) bool { return d.Day > day })
		only := slices.DeleteFunc(slices.Clone(l), func(d api.Deed) bool { return d.Turn != "a" })
		more := append(slices.Clone(l), api.Deed{Day: r.IntN(5), Known: 5, Kind: api.DdFound, Turn: "c", To: "ann"}, api.Deed{Day: 5, Known: 6, Kind: api.DdSell, Turn: "c", From: "ann", To: "ben"})
		parts, e := deed.Parts(l, "a", day, known)
		for _, x := range [][]api.Deed{upTo, only, more} {
			if got, f := deed.Parts(x, "a", day, known); f != e || !slices.Equal(got, parts) {
				t.Fatal(textOf(l), day, known, got, parts, e, f)
			}
		}
	})
}
