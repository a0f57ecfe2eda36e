package deed_test

import (
	"math/big"
	"math/rand/v2"
	"slices"
	"testing"

	"drowner/api"
	"drowner/deed"
)

// holdingsOf returns what the chapter says of a person, in exact fractions; false if one of them, or a sum on the way, is too fine.
func holdingsOf(m map[string][]bit, name string, day int) ([]api.Holding, bool) {
	var l []api.Holding
	fine := true
	for _, turn := range []string{"a", "b"} {
		owns, has := new(big.Rat), new(big.Rat)
		found := false
		add := func(sum *big.Rat, p api.Part) {
			long := new(big.Rat).Sub(rat(p.To), rat(p.From))
			sum.Add(sum, long)
			fine = fine && !tooFine(long) && !tooFine(sum)
		}
		for _, p := range partsOf(m[turn], day) {
			found = found || p.Owner == name || p.User == name
			if p.Owner == name && !p.Forfeited {
				add(owns, p)
			}
			if p.User == name {
				add(has, p)
			}
		}
		if found {
			l = append(l, api.Holding{Turn: turn, Owns: ratioOf(owns), Has: ratioOf(has)})
		}
	}
	return l, fine
}

// P5.5: by the chapter's definitions.
func TestHoldings(t *testing.T) {
	fines, both := 0, 0
	check := func(_ *rand.Rand, l []api.Deed, day, known int) {
		m, _ := books(l, day, known)
		persons := map[string]bool{}
		for _, name := range append(names(), "common", "nobody", "") {
			wanted, fine := holdingsOf(m, name, day)
			got, e := deed.Holdings(l, name, day, known)
			if fine && (e != api.OK || !slices.Equal(got, wanted)) || !fine && (e != api.ErrRange || len(got) > 0) {
				t.Fatal(textOf(l), name, day, known, got, wanted, fine, e)
			}
			if !fine {
				fines++
			}
			if len(wanted) > 1 {
				both++
			}
			if len(wanted) > 0 && name != "common" {
				persons[name] = true
			}
		}
		got, e := deed.Persons(l, day, known)
		if e != api.OK || len(got) != len(persons) || !slices.IsSorted(got) || slices.ContainsFunc(got, func(s string) bool { return !persons[s] }) {
			t.Fatal(textOf(l), day, known, got, persons, e)
		}
	}
	each(20, 3000, 20, 3, check)
	each(21, 2000, 30, 100, check)
	if fines < 20 || both < 200 {
		t.Error("only", fines, both)
	}
}

func TestHoldingsExamples(t *testing.T) {
	zero, one := ratio(0, 1), ratio(1, 1)
	l := deeds(t, "day 1 found zone for ann; day 1 found away for ann; day 1 found mead for ben; day 2 divide away of ann among ann 1, ben 2; day 3 forfeit zone of ann; day 4 lend mead of ben to ann until 6; day 5 lend away of ben to carl until 728; day 7 found last for eve;")
	for _, x := range []struct {
		name string
		day  int
		want []api.Holding
	}{
		{"ann", 0, nil},
		{"ann", 1, []api.Holding{{Turn: "away", Owns: one, Has: one}, {Turn: "zone", Owns: one, Has: one}}},
		{"ann", 6, []api.Holding{{Turn: "away", Owns: ratio(1, 3), Has: ratio(1, 3)}, {Turn: "mead", Owns: zero, Has: one}, {Turn: "zone", Owns: zero, Has: zero}}},
		{"ann", 7, []api.Holding{{Turn: "away", Owns: ratio(1, 3), Has: ratio(1, 3)}, {Turn: "zone", Owns: zero, Has: zero}}},
		{"ben", 6, []api.Holding{{Turn: "away", Owns: ratio(2, 3), Has: zero}, {Turn: "mead", Owns: one, Has: zero}}},
		{"carl", 7, []api.Holding{{Turn: "away", Owns: zero, Has: ratio(2, 3)}}},
		{"common", 7, []api.Holding{{Turn: "zone", Owns: zero, Has: one}}},
		{"eve", 6, nil}, {"", 7, nil}, {"zone", 7, nil}, {"of", 7, nil},
	} {
		if got, e := deed.Holdings(l, x.name, x.day, 728); e != api.OK || !slices.Equal(got, x.want) {
			t.Error(x, got, e)
		}
	}
	for day, wanted := range [][]string{nil, {"ann", "ben"}, 5: {"ann", "ben", "carl"}, 7: {"ann", "ben", "carl", "eve"}} {
		if got, e := deed.Persons(l, day, 728); wanted != nil && (e != api.OK || !slices.Equal(got, wanted)) || day == 0 && (e != api.OK || len(got) > 0) {
			t.Error(day, got, e)
		}
	}
}

// fine is a turn of which b owns two pieces, both from 0 on, whose lengths are fractions of 2 * 97 * 89 * 83 and of 2 * 79 * 73 * 71; d owns what would make the second one half a turn, e the same of the first one.
const fine = `day 1 found a for x; day 1 divide a of x among x 1, y 1;
day 1 divide a of x among x 1, e 96; day 1 divide a of x among x 1, e 88; day 1 divide a of x among b 1, e 82;
day 1 divide a of y among y 1, d 78; day 1 divide a of y among y 1, d 72; day 1 divide a of y among c 1, d 70;`

// P5.5: lengths and sums that are too fine, the last one or one on the way.
func TestHoldingsRange(t *testing.T) {
	for i, x := range []struct {
		more, name string
		e          api.Errno
	}{
		{"", "b", api.OK}, {"", "c", api.OK}, {"", "d", api.OK}, {"", "e", api.OK},
		{"day 2 sell a of c to b;", "b", api.ErrRange}, // each length would do, but not the sum
		{"day 2 lend a of c to b until 9;", "b", api.ErrRange},
		{"day 2 lend a of c to b until 8;", "b", api.OK},
		{"day 2 sell a of e to c;", "c", api.ErrRange}, // the length of the part that c has is too fine
		{"day 2 sell a of e to c;", "b", api.OK},
		{"day 2 lend a of e to c until 9;", "c", api.ErrRange},           // c uses both of two parts
		{"day 2 sell a of c to b; day 2 sell a of d to b;", "b", api.OK}, // all from a half on is one part
		{"day 2 sell a of c to b; day 2 lend a of b to x until 9; day 2 sell a of d to b;", "b", api.ErrRange},
		{"day 2 sell a of c to b; day 2 lend a of b to x until 9; day 2 sell a of d to b;", "x", api.ErrRange},
		{"day 2 sell a of c to b; day 2 forfeit a of b;", "b", api.OK}, // nothing is counted
		{"day 2 sell a of c to b; day 2 forfeit a of b;", "common", api.ErrRange},
		{"day 2 sell a of c to b; day 2 found b for b;", "b", api.ErrRange}, // whatever the other turns are
	} {
		l := deeds(t, fine+x.more)
		m, _ := books(l, 9, 9)
		if _, fine := holdingsOf(m, x.name, 9); fine != (x.e == api.OK) {
			t.Error(i, "the test says", fine)
		}
		got, e := deed.Holdings(l, x.name, 9, 9)
		if e != x.e || (len(got) == 0) != (e != api.OK) {
			t.Error(i, got, e)
		}
		if _, e := deed.Persons(l, 9, 9); e != api.OK {
			t.Error(i, e)
		}
	}
	// b has 1/2 of 1/(97*89*83), then 1/2 of 1/(79*73*71), and the rest of the latter half as a part of its own: together it would be fine, but not on the way.
	l := deeds(t, fine+"day 2 sell a of c to b; day 2 lend a of d to x until 9; day 3 sell a of d to b;")
	m, _ := books(l, 9, 9)
	sum := new(big.Rat)
	for _, b := range m["a"] {
		if b.owner == "b" {
			sum.Add(sum, new(big.Rat).Sub(b.to, b.from))
		}
	}
	if got, e := deed.Holdings(l, "b", 9, 9); tooFine(sum) || e != api.ErrRange || len(got) > 0 {
		t.Error(sum, got, e)
	}
}
