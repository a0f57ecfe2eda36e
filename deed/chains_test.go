package deed_test

import (
	"math/rand/v2"
	"slices"
	"strings"
	"testing"

	"drowner/api"
	"drowner/deed"
)

// P5.6, P5.7, P5.13: by the chapter's definitions.
func TestChainsAndRests(t *testing.T) {
	long := 0
	check := func(r *rand.Rand, l []api.Deed, day, known int) {
		m, _ := books(l, day, known)
		for _, turn := range []string{"a", "b"} {
			bits := m[turn]
			if bits == nil {
				_, e := deed.Chain(l, turn, ratio(0, 1), day, known)
				want(t, "Chain", e, api.ErrNone)
				_, e = deed.Rests(l, turn, ratio(0, 1), day, known)
				want(t, "Rests", e, api.ErrNone)
				continue
			}
			points := pointsOf(bits)
			p := points[r.IntN(len(points))]
			chain, e := deed.Chain(l, turn, p, day, known)
			if e != api.OK || !slices.Equal(chain, bitAt(bits, p).story) {
				t.Fatal(textOf(l), turn, p, day, known, chain, bitAt(bits, p).story, e)
			}
			if len(chain) > 3 {
				long++
			}
			owner, e := deed.CheckChain(l, turn, p, chain)
			if e != api.OK || owner != bitAt(bits, p).owner {
				t.Fatal(textOf(l), turn, p, chain, owner, e)
			}
			rests, e := deed.Rests(l, turn, p, day, known)
			if e != api.OK || !slices.Equal(rests, restsOf(l, turn, p, day, known)) {
				t.Fatal(textOf(l), turn, p, day, known, rests, e)
			}
		}
	}
	each(30, 1500, 20, 3, check)
	each(31, 500, 30, 100, check)
	if long < 300 {
		t.Error("only", long)
	}
}

func restsOf(l []api.Deed, turn string, p api.Ratio, day, known int) []int {
	all, _ := books(l, day, known)
	var rests []int
	for i := range l {
		m, _ := books(without(l, i), day, known)
		if m[turn] == nil || stateAt(m[turn], p, day) != stateAt(all[turn], p, day) {
			rests = append(rests, i)
		}
	}
	return rests
}

// led returns the owner to whom a chain leads, following the piece of the point as the chapter says; nobody if it is none.
func led(l []api.Deed, turn string, p api.Ratio, chain []int) string {
	var b bit
	for n, i := range chain {
		if i < 0 || i >= len(l) || l[i].Turn != turn {
			return ""
		}
		d := l[i]
		if n > 0 {
			last := l[chain[n-1]]
			if d.Day < last.Day || d.Day == last.Day && i <= chain[n-1] {
				return ""
			}
		}
		if (n == 0) != (d.Kind == api.DdFound) || n > 0 && b.owner != d.From {
			return ""
		}
		if n > 0 && b.lost != (d.Kind == api.DdRedeem) {
			return ""
		}
		bits, fine := effect([]bit{b}[:min(n, 1)], d, i)
		if !fine {
			return ""
		}
		b = bitAt(bits, p)
	}
	return b.owner
}

// P5.6: chains of all sorts, right and wrong, known or not.
func TestCheckChain(t *testing.T) {
	right, wrong := 0, 0
	check := func(r *rand.Rand, l []api.Deed, day, known int) {
		p := ratio(r.IntN(7), 7)
		if p.Num == 0 {
			p = ratio(0, 1)
		}
		base, _ := deed.Chain(l, "a", p, day, known)
		for range 12 {
			chain := slices.Clone(base)
			switch i := r.IntN(len(l)+2) - 1; r.IntN(5) {
			case 0:
				chain = slices.Insert(chain, r.IntN(len(chain)+1), i)
			case 1:
				if len(chain) > 0 {
					n := r.IntN(len(chain))
					chain = slices.Delete(chain, n, n+1)
				}
			case 2:
				if len(chain) > 0 {
					chain[r.IntN(len(chain))] = i
				}
			case 3:
				if n := r.IntN(len(chain) + 1); n > 1 {
					chain[n-1], chain[n-2] = chain[n-2], chain[n-1]
				}
			case 4:
				chain = chain[:r.IntN(len(chain)+1)]
			}
			owner, e := deed.CheckChain(l, "a", p, chain)
			wanted := led(l, "a", p, chain)
			if owner != wanted || (e == api.OK) != (wanted != "") || e != api.OK && e != api.ErrProof {
				t.Fatal(textOf(l), p, chain, owner, wanted, e)
			}
			if wanted == "" {
				wrong++
			} else {
				right++
			}
		}
	}
	each(32, 2000, 20, 3, check)
	if right < 2000 || wrong < 2000 {
		t.Error("only", right, wrong)
	}
}

// P5.6: what each sentence about chains refuses.
func TestChainSentences(t *testing.T) {
	l := deeds(t, `day 1 found a for ann; day 1 found b for ann; day 2 sell a of ann to ben; day 2 divide a of ben among ben 1, carl 1;
day 3 forfeit a of ben; day 3 redeem a of ben; day 3 lend a of ben to eve until 9; day 2 sell a of ben to ann; day 4 found a for ben; day 9 known 700 sell a of carl to dan; day 1 sell a of ben to eve;`)
	low, high := ratio(0, 1), ratio(1, 2)
	for _, x := range []struct {
		turn  string
		p     api.Ratio
		chain []int
		owner string
	}{
		{"a", low, []int{0}, "ann"}, {"b", low, []int{1}, "ann"}, {"a", low, []int{0, 2}, "ben"}, {"a", low, []int{0, 2, 3}, "ben"}, {"a", high, []int{0, 2, 3}, "carl"}, {"a", ratio(8388607, 16777216), []int{0, 2, 3}, "ben"},
		{"a", low, []int{0, 2, 4}, "ben"}, {"a", low, []int{0, 2, 4, 5}, "ben"}, {"a", low, []int{0, 2, 4, 5, 6}, "ben"}, {"a", low, []int{0, 2, 6}, "ben"}, {"a", low, []int{0, 2, 7}, "ann"}, {"a", high, []int{0, 2, 3, 9}, "dan"}, {"a", low, []int{8}, "ben"}, {"a", low, []int{0, 2, 3, 7}, "ann"},
		{"a", low, nil, ""}, {"a", low, []int{}, ""}, {"a", low, []int{2}, ""}, {"a", low, []int{0, 8}, ""}, {"a", low, []int{0, 0}, ""}, {"a", low, []int{0, 2, 2}, ""}, // not founded first, or twice
		{"a", low, []int{1}, ""}, {"b", low, []int{0}, ""}, {"c", low, []int{0}, ""}, {"", low, []int{0}, ""}, {"a", low, []int{0, 1, 2}, ""}, // of another turn
		{"a", low, []int{-1}, ""}, {"a", low, []int{11}, ""}, {"a", low, []int{0, -1}, ""}, {"a", low, []int{0, 1 << 62}, ""}, {"a", low, []int{0, -1 << 63}, ""}, // no index
		{"a", low, []int{0, 2, 4, 7}, ""}, {"a", low, []int{0, 2, 7, 3}, ""}, {"a", low, []int{0, 10}, ""}, {"a", low, []int{8, 10}, ""}, {"a", low, []int{0, 2, 5, 4}, ""}, // days that fall, or indices
		{"a", low, []int{0, 3}, ""}, {"a", high, []int{0, 2, 3, 7}, ""}, {"a", low, []int{0, 2, 3, 9}, ""}, {"a", low, []int{0, 2, 7, 4}, ""}, // of another owner
		{"a", low, []int{0, 2, 5}, ""}, {"a", low, []int{0, 2, 4, 6}, ""}, {"a", low, []int{0, 2, 4, 5, 5}, ""}, // forfeited, or not
	} {
		owner, e := deed.CheckChain(l, x.turn, x.p, x.chain)
		if owner != x.owner || (e == api.OK) != (x.owner != "") || e != api.OK && e != api.ErrProof || owner != led(l, x.turn, x.p, x.chain) {
			t.Error(x, owner, e)
		}
	}
}

// P5.6: the chain's errors in their order; what is too fine does not lead on.
func TestCheckChainErrors(t *testing.T) {
	l := deeds(t, "day 1 found a for b;"+strings.Repeat("day 1 divide a of b among b 1, c 1;", 25)+"day 2 divide a of b among b 1;")
	var chain []int
	for i := range 25 {
		chain = append(chain, i)
	}
	low := ratio(0, 1)
	owner, e := deed.CheckChain(l, "a", low, chain)
	if owner != "b" || e != api.OK {
		t.Error(owner, e)
	}
	_, e = deed.CheckChain(l, "a", low, append(slices.Clone(chain), 25))
	want(t, "CheckChain", e, api.ErrProof)
	owner, e = deed.CheckChain(l, "a", low, append(slices.Clone(chain), 26))
	if owner != "b" || e != api.OK {
		t.Error(owner, e)
	}
	// Within the piece of 1/2^23 the end 1/2^24 is not too fine, but 1/2^25 is.
	finer := append(l[:24:24], deeds(t, "day 2 divide a of b among b 1, d 1, e 2;")...)
	for _, p := range []api.Ratio{low, ratio(1, 1<<24)} {
		_, e = deed.CheckChain(finer, "a", p, append(slices.Clone(chain[:24]), 24))
		want(t, "CheckChain", e, api.ErrProof)
	}
	bad := []api.Deed{{}}
	for _, x := range []struct {
		l     []api.Deed
		p     api.Ratio
		chain []int
		e     api.Errno
	}{
		{bad, ratio(1, 1), make([]int, 61), api.ErrForm}, {slices.Repeat(l, 3), ratio(1, 1), make([]int, 61), api.ErrLimit}, {l, ratio(1, 1), make([]int, 61), api.ErrArg}, {l, ratio(0, 2), nil, api.ErrArg},
		{l, low, make([]int, 61), api.ErrLimit}, {l, low, make([]int, 60), api.ErrProof}, {nil, low, make([]int, 61), api.ErrLimit}, {nil, low, []int{0}, api.ErrProof}, {nil, low, nil, api.ErrProof},
	} {
		owner, e := deed.CheckChain(x.l, "a", x.p, x.chain)
		if want(t, "CheckChain", e, x.e); owner != "" {
			t.Error(owner)
		}
	}
	full := deeds(t, "day 1 found a for b;"+strings.Repeat("day 1 sell a of b to c; day 1 sell a of c to b;", 29)+"day 1 sell a of b to c;")
	whole, e := deed.Chain(full, "a", low, 1, 1)
	if owner, f := deed.CheckChain(full, "a", low, whole); len(whole) != 60 || owner != "c" || e != api.OK || f != api.OK {
		t.Error(whole, owner, e, f)
	}
}

// P5.6: deeds that change nothing of a piece took effect on it nevertheless; void ones did not.
func TestChainOfAll(t *testing.T) {
	l := deeds(t, `day 1 found a for b; day 2 divide a of b among b 1; day 3 lend a of b to c until 9; day 3 lend a of b to c until 9; day 4 found a for c; day 4 redeem a of b;
day 5 divide a of b among b 1, c 1; day 6 forfeit a of c; day 6 sell a of c to b; day 7 redeem a of c; day 7 sell a of c to b; day 8 sell a of b to d;`)
	for _, x := range []struct {
		p    api.Ratio
		want []int
	}{{ratio(0, 1), []int{0, 1, 2, 3, 6, 11}}, {ratio(1, 3), []int{0, 1, 2, 3, 6, 11}}, {ratio(1, 2), []int{0, 1, 2, 3, 6, 7, 9, 10, 11}}, {ratio(16777215, 16777216), []int{0, 1, 2, 3, 6, 7, 9, 10, 11}}} {
		if chain, e := deed.Chain(l, "a", x.p, 9, 9); e != api.OK || !slices.Equal(chain, x.want) {
			t.Error(x, chain, e)
		}
	}
	if chain, e := deed.Chain(l, "a", ratio(1, 2), 6, 9); e != api.OK || !slices.Equal(chain, []int{0, 1, 2, 3, 6, 7}) {
		t.Error(chain, e)
	}
}

// P5.7: what an answer rests on: owner, user, and whether it is forfeited, each for itself, on this day, and not where the part ends.
func TestRestsExamples(t *testing.T) {
	for _, x := range []struct {
		text string
		p    api.Ratio
		want []int
	}{
		{"day 1 found a for b;", ratio(0, 1), []int{0}},
		{"day 1 found a for b; day 2 found a for b;", ratio(0, 1), nil},
		{"day 1 found a for b; day 2 found a for c;", ratio(0, 1), []int{0}},
		{"day 1 found a for b; day 2 lend a of b to c until 9;", ratio(0, 1), []int{0, 1}},
		{"day 1 found a for b; day 2 lend a of b to c until 8;", ratio(0, 1), []int{0}},
		{"day 1 found a for b; day 2 forfeit a of b;", ratio(0, 1), []int{0, 1}},
		{"day 1 found a for b; day 2 forfeit a of b; day 3 redeem a of b;", ratio(0, 1), []int{0, 2}},
		{"day 1 found a for b; day 2 lend a of b to c until 9; day 2 forfeit a of b; day 3 redeem a of b;", ratio(0, 1), []int{0, 2, 3}},
		{"day 1 found a for b; day 2 divide a of b among b 1, c 1;", ratio(0, 1), []int{0}},
		{"day 1 found a for b; day 2 divide a of b among b 1, c 1;", ratio(1, 2), []int{0, 1}},
		{"day 1 found a for b; day 2 sell a of b to c; day 3 sell a of c to b;", ratio(1, 2), []int{0, 2}},
		{"day 1 found b for b; day 2 found a for b; day 3 sell b of b to c;", ratio(1, 2), []int{1}},
		{"day 4 sell a of c to d; day 1 found a for b; day 3 sell a of b to c;", ratio(1, 2), []int{0, 1, 2}},
		{"day 1 found a for b; day 10 sell a of b to c; day 1 known 10 sell a of b to c;", ratio(1, 2), []int{0}},
	} {
		if rests, e := deed.Rests(deeds(t, x.text), "a", x.p, 9, 9); e != api.OK || !slices.Equal(rests, x.want) {
			t.Error(x, rests, e)
		}
	}
}

// movedOf returns what has moved, told for each point between two ends, and joined.
func movedOf(before, after []bit, day int) []api.Part {
	var ends []api.Ratio
	for _, bits := range [][]bit{before, after} {
		for _, b := range bits {
			ends = append(ends, ratioOf(b.from))
		}
	}
	slices.SortFunc(ends, func(a, b api.Ratio) int { return rat(a).Cmp(rat(b)) })
	ends = append(slices.Compact(ends), ratio(1, 1))
	var l []api.Part
	for i, p := range ends[:len(ends)-1] {
		now := stateAt(after, p, day)
		if now == stateAt(before, p, day) {
			continue
		}
		if last := len(l) - 1; last >= 0 && l[last].To == p && whose(l[last]) == now {
			l[last].To = ends[i+1]
		} else {
			l = append(l, api.Part{From: p, To: ends[i+1], Owner: now.owner, User: now.user, Forfeited: now.lost})
		}
	}
	return l
}

// P5.7, P5.14: by the chapter's definitions.
func TestMoved(t *testing.T) {
	some := 0
	check := func(r *rand.Rand, l []api.Deed, day, from int) {
		to := r.IntN(20)
		a, _ := books(l, day, from)
		b, _ := books(l, day, to)
		for _, turn := range []string{"a", "b"} {
			got, e := deed.Moved(l, turn, day, from, to)
			if a[turn] == nil || b[turn] == nil {
				if want(t, "Moved", e, api.ErrNone); len(got) > 0 {
					t.Fatal(got)
				}
				continue
			}
			if e != api.OK || !slices.Equal(got, movedOf(a[turn], b[turn], day)) {
				t.Fatal(textOf(l), turn, day, from, to, got, e)
			}
			if len(got) > 1 {
				some++
			}
			for _, p := range pointsOf(a[turn], b[turn]) {
				x, _ := deed.At(l, turn, p, day, from)
				y, _ := deed.At(l, turn, p, day, to)
				in := slices.ContainsFunc(got, func(m api.Part) bool {
					return rat(m.From).Cmp(rat(p)) <= 0 && rat(p).Cmp(rat(m.To)) < 0 && whose(m) == whose(y)
				})
				if in != (whose(x) != whose(y)) {
					t.Fatal(textOf(l), turn, day, from, to, p, got)
				}
			}
			if none, e := deed.Moved(l, turn, day, to, to); e != api.OK || len(none) > 0 {
				t.Fatal(textOf(l), turn, day, to, none, e)
			}
		}
	}
	each(33, 2000, 20, 3, check)
	each(34, 500, 30, 100, check)
	if some < 50 {
		t.Error("only", some)
	}
}

func TestMovedExamples(t *testing.T) {
	zero, half, one := ratio(0, 1), ratio(1, 2), ratio(1, 1)
	head := "day 1 found a for b; day 1 divide a of b among b 1, c 1;"
	for _, x := range []struct {
		text     string
		from, to int
		want     []api.Part
	}{
		{head + "day 2 known 5 sell a of b to d;", 4, 5, []api.Part{part(zero, half, "d", "d")}},
		{head + "day 2 known 5 sell a of b to d;", 5, 4, []api.Part{part(zero, half, "b", "b")}},
		{head + "day 2 known 5 sell a of b to d; day 2 known 5 sell a of c to d;", 4, 5, []api.Part{part(zero, one, "d", "d")}},
		{head + "day 2 known 5 sell a of b to d; day 2 known 5 sell a of c to d;", 5, 4, []api.Part{part(zero, half, "b", "b"), part(half, one, "c", "c")}},
		{head + "day 2 known 5 lend a of b to d until 9;", 4, 5, []api.Part{part(zero, half, "b", "d")}},
		{head + "day 2 known 5 lend a of b to d until 8;", 4, 5, nil},
		{head + "day 2 known 5 forfeit a of c;", 4, 5, []api.Part{part(half, one, "c", "common")}},
		{head + "day 2 forfeit a of c; day 3 known 5 redeem a of c;", 4, 5, []api.Part{part(half, one, "c", "c")}},
		{head + "day 2 known 5 divide a of b among b 1;", 4, 5, nil},
		{head + "day 2 known 5 divide a of b among b 1, c 1;", 4, 5, []api.Part{part(ratio(1, 4), half, "c", "c")}}, // a part of one that goes on
		{head + "day 2 forfeit a of b; day 2 forfeit a of c; day 1 known 5 sell a of b to c;", 4, 5, []api.Part{part(zero, half, "c", "common")}},
		{"day 1 found a for b; day 2 known 5 divide a of b among c 1, b 1, d 2;", 4, 5, []api.Part{part(zero, ratio(1, 4), "c", "c"), part(half, one, "d", "d")}},
		{"day 1 found a for b; day 2 known 5 divide a of b among c 1, b 1, d 1; day 3 known 5 sell a of d to c;", 4, 5, []api.Part{part(zero, ratio(1, 3), "c", "c"), part(ratio(2, 3), one, "c", "c")}},
		{"day 1 known 3 found a for b; day 1 known 2 found a for c;", 2, 3, []api.Part{part(zero, one, "b", "b")}},
	} {
		if got, e := deed.Moved(deeds(t, x.text), "a", 9, x.from, x.to); e != api.OK || !slices.Equal(got, x.want) {
			t.Error(x, got, e)
		}
	}
	l := deeds(t, "day 3 known 5 found a for b;")
	for _, x := range []struct{ day, from, to int }{{9, 4, 5}, {9, 5, 4}, {9, 4, 4}, {2, 5, 5}} {
		got, e := deed.Moved(l, "a", x.day, x.from, x.to)
		if want(t, "Moved", e, api.ErrNone); len(got) > 0 {
			t.Error(got)
		}
	}
}
