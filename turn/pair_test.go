package turn_test

import (
	"testing"

	"drowner/api"
	"drowner/turn"
)

// gcd and lcm are looked for, one by one.
func gcd(a, b int) int {
	g := min(a, b)
	for a%g != 0 || b%g != 0 {
		g--
	}
	return g
}

func lcm(a, b int) int { return a / gcd(a, b) * b }

// keeps is the definition of a modulus that keeps two turns apart.
func keeps(a, b api.Turn, m int) bool {
	if m < 1 || a.Period%m != 0 || b.Period%m != 0 {
		return false
	}
	seen := make([]bool, m)
	for n := range a.Long {
		seen[(a.From+n)%m] = true
	}
	for n := range b.Long {
		if seen[(b.From+n)%m] {
			return false
		}
	}
	return true
}

// P1.3, P1.4 and P1.12

func TestPairs(t *testing.T) {
	r := chance(3)
	meet, apart := 0, 0
	for range 4000 {
		a, b := anyTurn(r, 36), anyTurn(r, 36)
		if r.IntN(3) > 0 { // turns that do not meet are rare otherwise
			b.Period = a.Period
			b.From, b.Long = b.From%b.Period, 1+(b.Long-1)%b.Period
		}
		l := lcm(a.Period, b.Period)
		in := func(n int) bool { return inTurn(a, n) && inTurn(b, n) }
		first, is := firstOf(api.Span{Lo: 0, Hi: l - 1}, in)
		got, e := turn.First(a, b)
		if got != first || is != (e == api.OK) || !is && e != api.ErrNone {
			t.Fatal("first", a, b, got, e, first, is)
		}
		many := 0
		from := r.IntN(1000)
		for n := range l { // any l integers in a row have as many
			if in(from + n) {
				many++
			}
		}
		if n, m, e := turn.Often(a, b); e != api.OK || n != many || m != l {
			t.Fatal("often", a, b, n, m, e, many, l)
		}
		checkApart(t, a, b, is)
		if is {
			meet++
		} else {
			apart++
		}
	}
	if meet < 500 || apart < 500 {
		t.Error("the pairs say too little:", meet, apart)
	}
}

// checkApart tries all moduli, and some that are none.
func checkApart(t *testing.T, a, b api.Turn, meet bool) {
	t.Helper()
	least := 0
	for m := -3; m <= max(a.Period, b.Period)+3; m++ {
		wanted := api.ErrProof
		if keeps(a, b, m) {
			wanted = api.OK
			if least == 0 {
				least = m
			}
		}
		if e := turn.CheckApart(a, b, m); e != wanted {
			t.Fatal("check", a, b, m, e, wanted)
		}
	}
	if m, is, e := turn.Apart(a, b); e != api.OK || m != least || is != (least > 0) || is == meet {
		t.Fatal("apart", a, b, m, is, e, least)
	}
}

// All integers that are multiples of l greater than First are in both turns.
func TestFirstComesAgain(t *testing.T) {
	a, b := api.Turn{Period: 12, From: 11, Long: 2}, api.Turn{Period: 18, From: 17, Long: 3}
	first, e := turn.First(a, b)
	if e != api.OK || first != 0 {
		t.Fatal("both began ahead of 0:", first, e)
	}
	for n := range 5 {
		if m := first + 36*n; !inTurn(a, m) || !inTurn(b, m) {
			t.Error(m)
		}
	}
}

// Two turns may meet first behind the last minute.
func TestPairsFar(t *testing.T) {
	a, b := api.Turn{Period: 40320, From: 0, Long: 1}, api.Turn{Period: 40319, From: 40318, Long: 1}
	if n, e := turn.First(a, b); e != api.OK || n != 40320*40318 {
		t.Error(n, e)
	}
	if n, e := turn.First(b, a); e != api.OK || n != 40320*40318 {
		t.Error(n, e)
	}
	if n, l, e := turn.Often(a, b); e != api.OK || n != 1 || l != 40320*40319 {
		t.Error(n, l, e)
	}
	a.Long, b.Long = 40320, 40319
	if n, l, e := turn.Often(a, b); e != api.OK || n != 40320*40319 || l != n {
		t.Error(n, l, e)
	}
	a, b = api.Turn{Period: 40320, From: 0, Long: 20160}, api.Turn{Period: 40320, From: 20160, Long: 20160}
	if m, is, e := turn.Apart(a, b); e != api.OK || !is || m != 40320 {
		t.Error(m, is, e)
	}
	if n, l, e := turn.Often(a, b); e != api.OK || n != 0 || l != 40320 {
		t.Error(n, l, e)
	}
	if n, e := turn.First(a, b); e != api.ErrNone || n != 0 {
		t.Error(n, e)
	}
}

// The examples of the document.
func TestPairExamples(t *testing.T) {
	a, b := api.Turn{Period: 6, From: 1, Long: 1}, api.Turn{Period: 4, From: 2, Long: 1}
	if m, is, e := turn.Apart(a, b); e != api.OK || !is || m != 2 {
		t.Error(m, is, e)
	}
	a, b = api.Turn{Period: 10, From: 2, Long: 3}, api.Turn{Period: 15, From: 5, Long: 2}
	if m, is, e := turn.Apart(a, b); e != api.OK || !is || m != 5 {
		t.Error(m, is, e)
	}
	want(t, "by 1", turn.CheckApart(a, b, 1), api.ErrProof)
	want(t, "by 5", turn.CheckApart(a, b, 5), api.OK)
	want(t, "by 10", turn.CheckApart(a, b, 10), api.ErrProof)
	want(t, "by 15", turn.CheckApart(a, b, 15), api.ErrProof)
	want(t, "by 30", turn.CheckApart(a, b, 30), api.ErrProof)
	want(t, "by 0", turn.CheckApart(a, b, 0), api.ErrProof)
	want(t, "by -5", turn.CheckApart(a, b, -5), api.ErrProof)
	want(t, "by the least integer", turn.CheckApart(a, b, -1<<63), api.ErrProof)
	want(t, "by the greatest integer", turn.CheckApart(a, b, 1<<63-1), api.ErrProof)
	b = api.Turn{Period: 15, From: 4, Long: 2}
	if n, e := turn.First(a, b); e != api.OK || n != 4 {
		t.Error(n, e)
	}
	if n, l, e := turn.Often(a, b); e != api.OK || n != 1 || l != 30 {
		t.Error(n, l, e)
	}
	want(t, "they meet", turn.CheckApart(a, b, 5), api.ErrProof)
}

func TestPairErrors(t *testing.T) {
	good := api.Turn{Period: 10, From: 2, Long: 3}
	for _, x := range badTurns() {
		for _, p := range [][2]api.Turn{{x, good}, {good, x}, {x, x}} {
			if n, e := turn.First(p[0], p[1]); e != api.ErrArg || n != 0 {
				t.Error("first", p, n, e)
			}
			if n, l, e := turn.Often(p[0], p[1]); e != api.ErrArg || n != 0 || l != 0 {
				t.Error("often", p, n, l, e)
			}
			if m, is, e := turn.Apart(p[0], p[1]); e != api.ErrArg || m != 0 || is {
				t.Error("apart", p, m, is, e)
			}
			for _, m := range []int{-1, 0, 1, 10} {
				want(t, "check", turn.CheckApart(p[0], p[1], m), api.ErrArg)
			}
		}
	}
}

// P1.5

func TestPart(t *testing.T) {
	r := chance(4)
	for range 1000 {
		x := anyTurn(r, 30)
		from := r.IntN(x.Long)
		long := 1 + r.IntN(x.Long-from)
		p, e := turn.Part(x, from, long)
		if e != api.OK || turn.CheckTurn(p) != api.OK || p.Period != x.Period || p.Long != long {
			t.Fatal(x, from, long, p, e)
		}
		for n := range 70 { // n is the minute with the number n - From of some occurrence
			k := (n + x.Period*5 - x.From) % x.Period
			if inTurn(p, n) != (k >= from && k < from+long) {
				t.Fatal(x, from, long, p, n)
			}
		}
	}
}

func TestPartEdges(t *testing.T) {
	x := api.Turn{Period: 10, From: 8, Long: 5}
	for _, y := range []struct{ from, long, wanted int }{{0, 5, 8}, {0, 1, 8}, {1, 1, 9}, {2, 1, 0}, {4, 1, 2}, {2, 3, 0}} {
		if p, e := turn.Part(x, y.from, y.long); e != api.OK || p != (api.Turn{Period: 10, From: y.wanted, Long: y.long}) {
			t.Error(y, p, e)
		}
	}
	most := 1<<63 - 1
	for _, y := range [][2]int{{-1, 1}, {-1, 3}, {0, 0}, {0, -1}, {1, 0}, {0, 6}, {1, 5}, {4, 2}, {5, 1}, {5, 0}, {6, -1}, {most, 1}, {1, most}, {most, most}, {-most - 1, most}, {-most - 1, -most - 1}, {most, -most}, {-3, 5}} {
		if p, e := turn.Part(x, y[0], y[1]); e != api.ErrArg || p != (api.Turn{}) {
			t.Error(y, p, e)
		}
	}
	for _, y := range badTurns() {
		if p, e := turn.Part(y, 0, 1); e != api.ErrArg || p != (api.Turn{}) {
			t.Error(y, p, e)
		}
	}
}
