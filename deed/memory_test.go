package deed_test

import (
	"slices"
	"strings"
	"testing"

	"drowner/api"
	"drowner/deed"
)

// Arguments are neither modified nor kept, and results are new memory (R6).

// roomy returns deeds with room behind them and behind their heirs, in which nothing may be written. Their order is not that in which they count.
func roomy(t *testing.T) []api.Deed {
	l := deeds(t, "day 9 sell upper of ben to carl; day 7 lend upper of carl to dan until 20; day 5 divide upper of ann among ben 2, carl 1; day 1 found upper for ann; day 2 found lower for ann; day 8 known 11 forfeit upper of carl;")
	l = slices.Grow(l, 9)
	for i := range l {
		l[i].Among = slices.Grow(l[i].Among, 5)
	}
	return l
}

func isClean(t *testing.T, l []api.Deed) bool {
	if !slices.EqualFunc(l, roomy(t), same) {
		return false
	}
	for _, d := range l {
		if slices.ContainsFunc(d.Among[:cap(d.Among)][len(d.Among):], func(h api.Heir) bool { return h != api.Heir{} }) {
			return false
		}
	}
	return !slices.ContainsFunc(l[:cap(l)][len(l):], func(d api.Deed) bool { return !same(d, api.Deed{}) })
}

func TestArgumentsStay(t *testing.T) {
	l := roomy(t)
	for _, f := range calls() {
		for day := range 13 {
			q := good()
			q.day = day
			f.do(l, q)
			if !isClean(t, l) {
				t.Fatal(f.name, day, l)
			}
		}
	}
	chain := slices.Grow([]int{3, 2, 0}, 9)
	owner, e := deed.CheckChain(l, "upper", ratio(0, 1), chain)
	if owner != "carl" || e != api.OK || !slices.Equal(chain[:9], []int{3, 2, 0, 0, 0, 0, 0, 0, 0}) || !isClean(t, l) {
		t.Error(owner, e, chain)
	}
}

// fill writes into all of a list, and behind it.
func fill[T any](l []T, x T) {
	l = l[:cap(l)]
	for i := range l {
		l[i] = x
	}
}

func TestResultsAreNew(t *testing.T) {
	l := roomy(t)
	for range 2 {
		for known := range 13 {
			order, _ := deed.Order(l, 9, known)
			void, _ := deed.Void(l, 9, known)
			turns, _ := deed.Turns(l, 9, known)
			parts, _ := deed.Parts(l, "upper", 9, known)
			minutes, _ := deed.Minutes(l, "upper", "carl", 9, 9, known)
			holdings, _ := deed.Holdings(l, "carl", 9, known)
			persons, _ := deed.Persons(l, 9, known)
			chain, _ := deed.Chain(l, "upper", ratio(1, 2), 9, known)
			rests, _ := deed.Rests(l, "upper", ratio(1, 2), 9, known)
			moved, _ := deed.Moved(l, "upper", 9, 9, known)
			m, none := books(l, 9, known)
			if !slices.Equal(order, counting(l, 9, known)) || !slices.Equal(void, none) || len(turns) != len(m) || !slices.Equal(parts, partsOf(m["upper"], 9)) || len(chain) > 0 && !slices.Equal(chain, bitAt(m["upper"], ratio(1, 2)).story) {
				t.Error(known, order, void, turns, parts, chain)
			}
			for _, x := range [][]int{order, void, chain, rests} {
				fill(x, -99)
			}
			fill(turns, "other")
			fill(persons, "other")
			fill(parts, api.Part{Owner: "other"})
			fill(moved, api.Part{Owner: "other"})
			fill(minutes, api.Span{Lo: -99})
			fill(holdings, api.Holding{Turn: "other"})
			if !isClean(t, l) {
				t.Fatal(known, l)
			}
		}
	}
}

func TestParsedIsNew(t *testing.T) {
	text := "day 5 divide upper of ann among ben 2, carl 1; day 5 divide upper of ann among dan 3;" + strings.Repeat("day 5 divide upper of ann among eve 2, fox 1;", 9)
	l := deeds(t, text)
	for i := range l {
		before := deeds(t, text)
		fill(l[i].Among, api.Heir{Name: "other", Share: 9})
		for n := i + 1; n < len(l); n++ {
			if !same(l[n], before[n]) {
				t.Fatal(i, n, l[n])
			}
		}
	}
}
