package deed_test

import (
	"cmp"
	"maps"
	"math/big"
	"math/rand/v2"
	"slices"
	"strings"
	"testing"

	"drowner/api"
	"drowner/deed"
)

// part returns a part whose ends are halves, thirds and so on.
func part(from, to api.Ratio, owner, user string) api.Part {
	return api.Part{From: from, To: to, Owner: owner, User: user, Forfeited: user == "common"}
}

// P5.2: by the chapter's definitions.
func TestOrderAndVoid(t *testing.T) {
	voids := 0
	each(10, 4000, 30, 3, func(_ *rand.Rand, l []api.Deed, day, known int) {
		order, e := deed.Order(l, day, known)
		if e != api.OK || !slices.Equal(order, counting(l, day, known)) {
			t.Fatal(textOf(l), day, known, order, e)
		}
		m, none := books(l, day, known)
		void, e := deed.Void(l, day, known)
		if e != api.OK || !slices.Equal(void, none) {
			t.Fatal(textOf(l), day, known, void, none, e)
		}
		voids += len(void)
		turns, e := deed.Turns(l, day, known)
		if e != api.OK || !slices.Equal(turns, slices.Sorted(maps.Keys(m))) {
			t.Fatal(textOf(l), day, known, turns, e)
		}
	})
	if voids < 1000 {
		t.Error("only", voids, "are void")
	}
}

// P5.2: days count before indices, and what is void is listed by index, not by day.
func TestOrderOfDays(t *testing.T) {
	l := deeds(t, "day 9 sell low of eve to ann; day 3 sell low of ann to ben; day 3 known 8 found low for ann; day 0 known 5 found up for ann; day 3 found alow for ann; day 2 redeem low of ann; day 728 redeem up of ann;")
	for _, x := range []struct {
		day, known  int
		order, void []int
		turns       []string
	}{
		{0, 0, nil, nil, nil}, {0, 4, nil, nil, nil}, {0, 5, []int{3}, nil, []string{"up"}}, {2, 0, nil, nil, nil}, {3, 3, []int{5, 1, 4}, []int{1, 5}, []string{"alow"}},
		{3, 8, []int{3, 5, 1, 2, 4}, []int{1, 5}, []string{"alow", "low", "up"}}, {9, 8, []int{3, 5, 1, 2, 4}, []int{1, 5}, []string{"alow", "low", "up"}},
		{9, 9, []int{3, 5, 1, 2, 4, 0}, []int{0, 1, 5}, []string{"alow", "low", "up"}}, {728, 727, []int{3, 5, 1, 2, 4, 0}, []int{0, 1, 5}, []string{"alow", "low", "up"}}, {727, 728, []int{3, 5, 1, 2, 4, 0}, []int{0, 1, 5}, []string{"alow", "low", "up"}},
		{728, 728, []int{3, 5, 1, 2, 4, 0, 6}, []int{0, 1, 5, 6}, []string{"alow", "low", "up"}},
	} {
		order, _ := deed.Order(l, x.day, x.known)
		void, _ := deed.Void(l, x.day, x.known)
		turns, _ := deed.Turns(l, x.day, x.known)
		if !slices.Equal(order, x.order) || !slices.Equal(void, x.void) || !slices.Equal(turns, x.turns) {
			t.Error(x, order, void, turns)
		}
	}
}

// P5.3: by the chapter's definitions, for shares that are small, and for such that cut finely.
func TestPartsAndAt(t *testing.T) {
	several := 0
	check := func(r *rand.Rand, l []api.Deed, day, known int) {
		m, _ := books(l, day, known)
		for _, turn := range []string{"a", "b", "c", "", "day"} {
			parts, e := deed.Parts(l, turn, day, known)
			if m[turn] == nil {
				want(t, "Parts", e, api.ErrNone)
				continue
			}
			if e != api.OK || !slices.Equal(parts, partsOf(m[turn], day)) {
				t.Fatal(textOf(l), turn, day, known, parts, e)
			}
			if len(parts) > 2 {
				several++
			}
			for _, p := range pointsOf(m[turn]) {
				one, e := deed.At(l, turn, p, day, known)
				in := rat(one.From).Cmp(rat(p)) <= 0 && rat(p).Cmp(rat(one.To)) < 0
				if e != api.OK || !in || !slices.Contains(parts, one) || whose(one) != state(stateAt(m[turn], p, day)) {
					t.Fatal(textOf(l), turn, day, known, p, one, e)
				}
			}
		}
	}
	each(11, 1500, 20, 3, check)
	each(12, 500, 30, 100, check)
	if several < 500 {
		t.Error("only", several)
	}
}

// P5.3: what each kind of deed does, and when it is void.
func TestEffects(t *testing.T) {
	zero, half, one := ratio(0, 1), ratio(1, 2), ratio(1, 1)
	third, quarter := ratio(1, 3), ratio(1, 4)
	for i, x := range []struct {
		text string // of turn a, on the day 9
		void []int
		want []api.Part
	}{
		{"day 1 found a for b; day 1 found a for c;", []int{1}, []api.Part{part(zero, one, "b", "b")}},
		{"day 1 found a for b; day 1 sell a of b to c; day 2 found a for b;", []int{2}, []api.Part{part(zero, one, "c", "c")}},
		{"day 2 found a for b; day 1 found a for c;", []int{0}, []api.Part{part(zero, one, "c", "c")}},
		{"day 1 found a for b; day 1 sell a of c to b;", []int{1}, []api.Part{part(zero, one, "b", "b")}},
		{"day 2 found a for b; day 1 sell a of b to c;", []int{1}, []api.Part{part(zero, one, "b", "b")}},
		// What is forfeited is neither sold, divided, lent, nor forfeited again, but owned.
		{"day 1 found a for b; day 2 forfeit a of b; day 3 sell a of b to c; day 3 divide a of b among c 1; day 3 lend a of b to c until 9; day 3 forfeit a of b;", []int{2, 3, 4, 5}, []api.Part{part(zero, one, "b", "common")}},
		{"day 1 found a for b; day 2 redeem a of b;", []int{1}, []api.Part{part(zero, one, "b", "b")}},
		{"day 1 found a for b; day 2 forfeit a of b; day 3 redeem a of c; day 4 redeem a of b; day 5 redeem a of b;", []int{2, 4}, []api.Part{part(zero, one, "b", "b")}},
		// Of the pieces of one owner some may be forfeited: each deed is about the others, or, if it redeems, about these.
		{"day 1 found a for b; day 1 divide a of b among c 1, d 1; day 2 forfeit a of c; day 3 sell a of d to c; day 4 sell a of c to e;", nil, []api.Part{part(zero, half, "c", "common"), part(half, one, "e", "e")}},
		{"day 1 found a for b; day 1 divide a of b among c 1, d 1; day 2 forfeit a of c; day 3 sell a of d to c; day 4 lend a of c to e until 9; day 5 redeem a of c;", nil, []api.Part{part(zero, half, "c", "c"), part(half, one, "c", "e")}},
		{"day 1 found a for b; day 1 divide a of b among c 1, d 1; day 2 forfeit a of c; day 3 sell a of d to c; day 4 forfeit a of c;", nil, []api.Part{part(zero, one, "c", "common")}},
		// Whoever divides may be one of the heirs; each piece is cut on its own, in the order of the heirs.
		{"day 1 found a for b; day 1 divide a of b among c 1, b 1; day 2 sell a of c to b; day 3 divide a of b among d 1, b 1;", nil, []api.Part{part(zero, quarter, "d", "d"), part(quarter, half, "b", "b"), part(half, ratio(3, 4), "d", "d"), part(ratio(3, 4), one, "b", "b")}},
		{"day 1 found a for b; day 1 divide a of b among c 20, d 40; day 2 divide a of b among e 1;", []int{2}, []api.Part{part(zero, third, "c", "c"), part(third, one, "d", "d")}},
		// What is lent stays so if it is sold or divided; until the last day, and not behind it.
		{"day 1 found a for b; day 2 lend a of b to c until 9; day 3 sell a of b to d; day 4 divide a of d among e 1, c 1;", nil, []api.Part{part(zero, half, "e", "c"), part(half, one, "c", "c")}},
		{"day 1 found a for b; day 2 lend a of b to c until 8; day 3 sell a of b to d;", nil, []api.Part{part(zero, one, "d", "d")}},
		{"day 1 found a for b; day 2 lend a of b to c until 9; day 3 lend a of b to d until 8;", nil, []api.Part{part(zero, one, "b", "b")}},
		{"day 1 found a for b; day 2 lend a of b to c until 4; day 3 lend a of b to d until 9;", nil, []api.Part{part(zero, one, "b", "d")}},
		{"day 1 found a for b; day 2 lend a of b to c until 728; day 2 sell a of c to d; day 3 lend a of c to d until 9;", []int{2, 3}, []api.Part{part(zero, one, "b", "c")}},
		{"day 9 found a for b; day 9 lend a of b to c until 9;", nil, []api.Part{part(zero, one, "b", "c")}},
		// What is forfeited is not lent any more, nor is it again when it is redeemed.
		{"day 1 found a for b; day 2 lend a of b to c until 20; day 3 forfeit a of b; day 4 redeem a of b;", nil, []api.Part{part(zero, one, "b", "b")}},
		// Neighbours are one part if all that is told of them is the same.
		{"day 1 found a for b; day 2 divide a of b among c 1, d 1; day 3 sell a of d to c;", nil, []api.Part{part(zero, one, "c", "c")}},
		{"day 1 found a for b; day 2 divide a of b among c 1, d 1; day 3 lend a of d to c until 9; day 3 sell a of d to c;", nil, []api.Part{part(zero, one, "c", "c")}},
		{"day 1 found a for b; day 2 divide a of b among c 1, d 1, b 2; day 3 sell a of b to c;", nil, []api.Part{part(zero, quarter, "c", "c"), part(quarter, half, "d", "d"), part(half, one, "c", "c")}},
		{"day 1 found a for b; day 2 divide a of b among c 1, d 1; day 3 lend a of c to e until 9; day 3 lend a of d to e until 9;", nil, []api.Part{part(zero, half, "c", "e"), part(half, one, "d", "e")}},
		{"day 1 found a for b; day 2 divide a of b among c 1, d 1; day 3 forfeit a of c; day 3 forfeit a of d;", nil, []api.Part{part(zero, half, "c", "common"), part(half, one, "d", "common")}},
	} {
		l := deeds(t, x.text)
		void, e := deed.Void(l, 9, 9)
		if e != api.OK || !slices.Equal(void, x.void) {
			t.Error(i, void, e)
		}
		if parts, e := deed.Parts(l, "a", 9, 9); e != api.OK || !slices.Equal(parts, x.want) {
			t.Error(i, parts, e)
		}
	}
}

// P5.3: no turn has more than 40 pieces, of whoever.
func TestMostPieces(t *testing.T) {
	cut := "day 1 found a for b; day 1 divide a of b among c 1, d 1, e 1, f 1, g 1, h 1, i 1, j 1;"
	for _, who := range strings.Fields("d e f") {
		cut += "day 1 sell a of " + who + " to c;"
	}
	cut += "day 1 divide a of c among c 1, d 2, e 3, f 4, g 5, h 6, i 7, j 8;" // 4 * 8 + 4 = 36
	for _, x := range []struct {
		who, among string // c has four of the pieces, h has five
		pieces     int
	}{{"c", "k 1, l 1", 40}, {"c", "k 1, c 2", 40}, {"c", "k 1, c 2, h 1", 0}, {"h", "k 1, l 1", 0}, {"h", "k 9", 36}, {"h", "k 1, h 1", 0}, {"c", "h 1", 36}} {
		l := deeds(t, cut+"day 3 divide a of "+x.who+" among "+x.among+";")
		m, none := books(l, 9, 9)
		void, e := deed.Void(l, 9, 9)
		if e != api.OK || slices.Contains(void, len(l)-1) != (x.pieces == 0) || !slices.Equal(void, none) || len(m["a"]) != max(x.pieces, 36) {
			t.Error(x, void, len(m["a"]))
		}
	}
	// From one piece to 8, 15, 22, 29, 36, and then 40, but not 41.
	steps := "day 1 found a for b;" + strings.Repeat("day 1 divide a of b among b 1, c 1, d 1, e 1, f 1, g 1, h 1, i 1;", 5)
	for _, x := range []struct {
		among string
		void  []int
	}{{"b 1, c 1, d 1, e 1, f 1", nil}, {"b 1, c 1, d 1, e 1, f 1, g 1", []int{6}}} {
		l := deeds(t, steps+"day 2 divide a of b among "+x.among+"; day 3 divide a of i among i 1;")
		if void, e := deed.Void(l, 9, 9); e != api.OK || !slices.Equal(void, x.void) {
			t.Error(x, void, e)
		}
	}
}

// P5.3: ends whose denominators are just as great as they may be, or greater.
func TestFinestPieces(t *testing.T) {
	halves := "day 1 found a for b;" + strings.Repeat("day 1 divide a of b among b 1, c 1;", 23)
	for i, x := range []struct {
		among string
		void  []int
	}{
		{"b 1, d 1", nil}, {"d 1, b 1", nil}, {"b 2, d 2", nil}, {"b 50, d 50", nil}, {"b 1, d 2", []int{24}}, {"b 1, d 3", []int{24}}, {"b 3, d 1", []int{24}}, {"b 1, d 1, e 1, f 1", []int{24}}, {"d 100", nil}, {"b 1, d 2, e 1", []int{24}}, {"e 2, b 1, d 1", []int{24}},
	} {
		l := deeds(t, halves+"day 2 divide a of b among "+x.among+";")
		if void, e := deed.Void(l, 9, 9); e != api.OK || !slices.Equal(void, x.void) {
			t.Error(i, void, e)
		}
		m, _ := books(l, 9, 9)
		if parts, e := deed.Parts(l, "a", 9, 9); e != api.OK || !slices.Equal(parts, partsOf(m["a"], 9)) {
			t.Error(i, parts, e)
		}
	}
	// 89 * 97 * 83 * 23 is 16480397, 89 * 97 * 83 * 24 is 17196936.
	primes := "day 1 found a for b; day 1 divide a of b among b 1, c 88; day 1 divide a of b among b 1, c 96; day 1 divide a of b among b 1, c 82;"
	for _, x := range []struct {
		among string
		void  []int
	}{{"b 22, c 1", nil}, {"b 23, c 1", []int{4}}, {"b 12, c 12", nil}} {
		l := deeds(t, primes+"day 2 divide a of b among "+x.among+";")
		if void, e := deed.Void(l, 9, 9); e != api.OK || !slices.Equal(void, x.void) {
			t.Error(x, void, e)
		}
		if _, none := books(l, 9, 9); !slices.Equal(none, x.void) {
			t.Error("the test says", none)
		}
	}
	// 97 * 257 * 673 is 2^24 + 1, and 63 * 65 * 17 * 241 is 2^24 - 1.
	above := "day 1 found a for b; day 1 divide a of b among b 1, c 96; day 1 divide a of b among b 1, c 100, d 100, e 56; day 2 divide a of b among b 1, c 100, d 100, e 100, f 100, g 100, h 100, i 72;"
	below := "day 1 found a for b; day 1 divide a of b among b 1, c 62; day 1 divide a of b among b 1, c 64; day 1 divide a of b among b 1, c 16; day 2 divide a of b among b 1, c 100, d 100, e 40;"
	for text, last := range map[string]api.Ratio{above: ratio(1, 97*257), below: ratio(1, 1<<24-1)} {
		if p, e := deed.At(deeds(t, text), "a", ratio(0, 1), 9, 9); e != api.OK || p.To != last {
			t.Error(p, e)
		}
	}
	// One piece that would be cut too finely makes a deed void for all pieces.
	l := deeds(t, halves+"day 2 divide a of b among b 1, d 1; day 3 sell a of c to b; day 4 divide a of b among e 1, f 1; day 5 divide a of b among e 7;")
	if void, e := deed.Void(l, 9, 9); e != api.OK || !slices.Equal(void, []int{26}) {
		t.Error(void, e)
	}
}

// P5.4: minute by minute.
func TestUserAndMinutes(t *testing.T) {
	check := func(r *rand.Rand, l []api.Deed, day, known int) {
		m, _ := books(l, day, known)
		turn := []string{"a", "b"}[r.IntN(2)]
		long := cmp.Or(r.IntN(3)*r.IntN(40), 1+r.IntN(6))
		users := map[string][]api.Span{}
		for n := range long {
			user, e := deed.User(l, turn, n, long, day, known)
			if m[turn] == nil {
				want(t, "User", e, api.ErrNone)
				continue
			}
			point := ratioOf(big.NewRat(int64(n), int64(long)))
			if e != api.OK || user != stateAt(m[turn], point, day).user {
				t.Fatal(textOf(l), turn, n, long, day, known, user, e)
			}
			x := users[user]
			if last := len(x) - 1; last >= 0 && x[last].Hi == n-1 {
				x[last].Hi = n
			} else {
				users[user] = append(x, api.Span{Lo: n, Hi: n})
			}
		}
		for _, name := range append(names(), "common", "nobody", "") {
			got, e := deed.Minutes(l, turn, name, long, day, known)
			if m[turn] == nil {
				want(t, "Minutes", e, api.ErrNone)
				continue
			}
			if e != api.OK || !slices.Equal(got, users[name]) {
				t.Fatal(textOf(l), turn, name, long, day, known, got, users[name], e)
			}
		}
	}
	each(13, 1500, 20, 3, check)
	each(14, 300, 20, 100, check)
}

// P5.4: of the longest turn, and of parts that are shorter than a minute.
func TestMinutesEdges(t *testing.T) {
	l := deeds(t, "day 0 found a for b; day 0 divide a of b among c 1, b 100, d 1, e 100;")
	span := func(lo, hi int) []api.Span { return []api.Span{{Lo: lo, Hi: hi}} }
	for _, x := range []struct {
		name string
		long int
		want []api.Span
	}{
		{"c", 40320, span(0, 199)}, {"b", 40320, span(200, 20159)}, {"d", 40320, span(20160, 20359)}, {"e", 40320, span(20360, 40319)},
		{"c", 202, span(0, 0)}, {"b", 202, span(1, 100)}, {"d", 202, span(101, 101)}, {"e", 202, span(102, 201)},
		{"c", 1, span(0, 0)}, {"b", 1, nil}, {"d", 1, nil}, {"e", 1, nil}, {"c", 2, span(0, 0)}, {"b", 2, nil}, {"d", 2, span(1, 1)}, {"e", 2, nil},
		{"c", 3, span(0, 0)}, {"b", 3, span(1, 1)}, {"d", 3, nil}, {"e", 3, span(2, 2)},
	} {
		if got, e := deed.Minutes(l, "a", x.name, x.long, 0, 0); e != api.OK || !slices.Equal(got, x.want) {
			t.Error(x, got, e)
		}
	}
	// d has no minute of three, and b and e the others; sold to b they are one span.
	all := append(l, deeds(t, "day 1 sell a of e to b; day 1 sell a of c to b;")...)
	if got, e := deed.Minutes(all, "a", "b", 3, 1, 1); e != api.OK || !slices.Equal(got, span(0, 2)) {
		t.Error(got, e)
	}
	if got, e := deed.Minutes(all, "a", "b", 202, 1, 1); e != api.OK || !slices.Equal(got, []api.Span{{Lo: 0, Hi: 100}, {Lo: 102, Hi: 201}}) {
		t.Error(got, e)
	}
	// Neighbours of other owners, one of whom lends to the other one.
	lent := append(l, deeds(t, "day 1 lend a of d to b until 2; day 1 forfeit a of e; day 1 forfeit a of c;")...)
	if got, e := deed.Minutes(lent, "a", "b", 202, 2, 2); e != api.OK || !slices.Equal(got, span(1, 101)) {
		t.Error(got, e)
	}
	if got, e := deed.Minutes(lent, "a", "common", 202, 2, 2); e != api.OK || !slices.Equal(got, []api.Span{{}, {Lo: 102, Hi: 201}}) {
		t.Error(got, e)
	}
}

// P5.4: minutes and lengths that are none.
func TestMinuteErrors(t *testing.T) {
	l := deeds(t, source)
	far, low := 1<<63-1, -1<<63
	for _, long := range []int{0, -1, 40321, far, low} {
		for _, turn := range []string{"upper", "lower"} {
			user, e := deed.User(l, turn, 0, long, 8, 30)
			want(t, "User", e, api.ErrArg)
			minutes, f := deed.Minutes(l, turn, "dan", long, 8, 30)
			want(t, "Minutes", f, api.ErrArg)
			if user != "" || len(minutes) > 0 {
				t.Error(user, minutes)
			}
		}
	}
	for _, minute := range []int{-1, 300, 301, far, low} {
		_, e := deed.User(l, "upper", minute, 300, 8, 30)
		want(t, "User", e, api.ErrArg)
		_, e = deed.User(l, "lower", minute, 300, 8, 30)
		want(t, "User", e, api.ErrArg)
	}
	for _, minute := range []int{0, 40319} {
		_, e := deed.User(l, "upper", minute, 40320, 8, 30)
		want(t, "User", e, api.OK)
		_, e = deed.User(l, "lower", minute, 40320, 8, 30)
		want(t, "User", e, api.ErrNone)
	}
	_, e := deed.Minutes(l, "lower", "dan", 40320, 8, 30)
	want(t, "Minutes", e, api.ErrNone)
}
