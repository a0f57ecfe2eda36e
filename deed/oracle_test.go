package deed_test

import (
	"maps"
	"math/big"
	"math/rand/v2"
	"slices"
	"testing"

	"drowner/api"
	"drowner/deed"
)

// The tests compare the package with what the chapter says, deed by deed, in fractions without limits.

const source = "day 1 found upper for ann;\nday 5 divide upper of ann among ben 2, carl 1;\nday 7 lend upper of ben to dan until 20;\nday 9 known 12 sell upper of carl to ben;\nday 10 forfeit upper of ben;\nday 30 redeem upper of ben;\n"

// chance returns numbers that are the same in each run.
func chance(seed uint64) *rand.Rand { return rand.New(rand.NewPCG(seed, 17)) }

func ratio(num, den int) api.Ratio { return api.Ratio{Num: num, Den: den} }

func want(t *testing.T, what string, got, e api.Errno) {
	t.Helper()
	if got != e {
		t.Error(what, "gives", got, "and not", e)
	}
}

// deeds returns the deeds of a source.
func deeds(t *testing.T, source string) []api.Deed {
	t.Helper()
	l, e, at := deed.Parse(source)
	if e != api.OK || at != 0 {
		t.Fatal(source, e, at)
	}
	return l
}

// same reports whether two deeds are the same; no heirs are no heirs, whether nil or not.
func same(a, b api.Deed) bool {
	return a.Day == b.Day && a.Known == b.Known && a.Kind == b.Kind && a.Turn == b.Turn && a.From == b.From && a.To == b.To && a.Until == b.Until && slices.Equal(a.Among, b.Among)
}

// bit is a piece of a turn, with the deeds that took effect on it.
type bit struct {
	from, to    *big.Rat
	owner, lent string
	until       int
	lost        bool
	story       []int
}

func rat(r api.Ratio) *big.Rat { return big.NewRat(int64(r.Num), int64(r.Den)) }

func ratioOf(r *big.Rat) api.Ratio { return ratio(int(r.Num().Int64()), int(r.Denom().Int64())) }

func tooFine(r *big.Rat) bool { return r.Denom().Cmp(big.NewInt(api.MaxDen)) > 0 }

// counting returns the deeds that count, day by day.
func counting(l []api.Deed, day, known int) []int {
	var order []int
	for now := range day + 1 {
		for i, d := range l {
			if d.Day == now && d.Known <= known {
				order = append(order, i)
			}
		}
	}
	return order
}

// books returns the pieces of all turns that are founded, and the deeds that are void.
func books(l []api.Deed, day, known int) (map[string][]bit, []int) {
	m := map[string][]bit{}
	var void []int
	for _, i := range counting(l, day, known) {
		for _, bits := range m {
			for n := range bits {
				if bits[n].until < l[i].Day {
					bits[n].lent = ""
				}
			}
		}
		bits, ok := effect(m[l[i].Turn], l[i], i)
		if ok {
			m[l[i].Turn] = bits
		} else {
			void = append(void, i)
		}
	}
	slices.Sort(void)
	return m, void
}

// effect returns what a deed makes of the pieces of its turn, and whether it is not void.
func effect(bits []bit, d api.Deed, i int) ([]bit, bool) {
	if d.Kind == api.DdFound {
		return []bit{{from: new(big.Rat), to: big.NewRat(1, 1), owner: d.To, story: []int{i}}}, len(bits) == 0
	}
	var l []bit
	meant, fine := 0, true
	for _, b := range bits {
		if b.owner != d.From || b.lost != (d.Kind == api.DdRedeem) {
			l = append(l, b)
			continue
		}
		meant++
		b.story = append(slices.Clone(b.story), i)
		switch d.Kind {
		case api.DdSell:
			b.owner = d.To
		case api.DdLend:
			b.lent, b.until = d.To, d.Until
		case api.DdForfeit:
			b.lost, b.lent = true, ""
		case api.DdRedeem:
			b.lost = false
		case api.DdDivide:
			for _, x := range cuts(b, d.Among) {
				fine = fine && !tooFine(x.from) && !tooFine(x.to)
				l = append(l, x)
			}
			continue
		}
		l = append(l, b)
	}
	return l, meant > 0 && fine && (d.Kind != api.DdDivide || len(l) <= api.MaxParts)
}

// cuts returns the pieces into which one is cut, each as long as its share.
func cuts(b bit, among []api.Heir) []bit {
	all := int64(0)
	for _, h := range among {
		all += int64(h.Share)
	}
	long := new(big.Rat).Sub(b.to, b.from)
	at := b.from
	var l []bit
	for _, h := range among {
		x := b
		x.owner, x.from = h.Name, at
		at = new(big.Rat).Add(at, new(big.Rat).Mul(long, big.NewRat(int64(h.Share), all)))
		x.to = at
		l = append(l, x)
	}
	return l
}

func userOf(b bit, day int) string {
	switch {
	case b.lost:
		return "common"
	case b.lent != "" && day <= b.until:
		return b.lent
	}
	return b.owner
}

// partsOf returns the parts of a turn: each piece begins one, unless it is as the one before it.
func partsOf(bits []bit, day int) []api.Part {
	var l []api.Part
	for i, b := range bits {
		p := api.Part{From: ratioOf(b.from), To: ratioOf(b.to), Owner: b.owner, User: userOf(b, day), Forfeited: b.lost}
		if i > 0 && whose(l[len(l)-1]) == whose(p) {
			l[len(l)-1].To = p.To
		} else {
			l = append(l, p)
		}
	}
	return l
}

// state is what a point's part tells.
type state struct {
	owner, user string
	lost        bool
}

func whose(p api.Part) state { return state{p.Owner, p.User, p.Forfeited} }

// bitAt returns the piece in which a point lies.
func bitAt(bits []bit, point api.Ratio) bit {
	for _, b := range bits {
		if b.from.Cmp(rat(point)) <= 0 && b.to.Cmp(rat(point)) > 0 {
			return b
		}
	}
	panic("a point in no piece")
}

func stateAt(bits []bit, point api.Ratio, day int) state {
	b := bitAt(bits, point)
	return state{b.owner, userOf(b, day), b.lost}
}

// pointsOf returns points of turns: all ends of all pieces, and some between them.
func pointsOf(turns ...[]bit) []api.Ratio {
	seen := map[api.Ratio]bool{}
	for _, bits := range turns {
		for _, b := range bits {
			seen[ratioOf(b.from)] = true
		}
	}
	l := slices.SortedFunc(maps.Keys(seen), func(a, b api.Ratio) int { return rat(a).Cmp(rat(b)) })
	for i, p := range l[1:] {
		between := new(big.Rat).Add(rat(l[i]), rat(p))
		between.Mul(between, big.NewRat(1, 2))
		if !tooFine(between) {
			l = append(l, ratioOf(between))
		}
	}
	return l
}

// without returns the deeds without one.
func without(l []api.Deed, i int) []api.Deed { return slices.Concat(l[:i], l[i+1:]) }

func names() []string { return []string{"ann", "ben", "carl", "dan"} }

// anyDeeds returns deeds of the turns a and b, with shares up to top. Most of them have an effect, as they are about somebody to whom something went shortly before.
func anyDeeds(r *rand.Rand, n, top int) []api.Deed {
	l := []api.Deed{{Kind: api.DdFound, Turn: "a", To: "ann"}}
	got := map[string][]string{"a": {"ann"}, "b": {"ben"}}
	for len(l) < n {
		d := api.Deed{Day: r.IntN(14), Kind: []int{1, 2, 2, 3, 3, 3, 3, 4, 4, 5, 6, 6}[r.IntN(12)], Turn: []string{"a", "a", "a", "b"}[r.IntN(4)]}
		if r.IntN(6) > 0 {
			d.Day = min(l[len(l)-1].Day+r.IntN(2), 14)
		}
		d.Known = d.Day + max(0, r.IntN(8)-4)
		last := got[d.Turn]
		some := append([]string{last[len(last)-1-r.IntN(min(4, len(last)))]}, names()...)
		if d.Kind != api.DdFound {
			d.From = some[0]
			some = slices.DeleteFunc(some[1:], func(name string) bool { return name == d.From })
		}
		r.Shuffle(len(some), func(i, j int) { some[i], some[j] = some[j], some[i] })
		switch d.Kind {
		case api.DdFound, api.DdSell, api.DdLend:
			d.To = some[0]
		case api.DdDivide:
			for _, name := range append(some, d.From)[r.IntN(4):] {
				d.Among = append(d.Among, api.Heir{Name: name, Share: 1 + r.IntN(top)})
				got[d.Turn] = append(got[d.Turn], name)
			}
			r.Shuffle(len(d.Among), func(i, j int) { d.Among[i], d.Among[j] = d.Among[j], d.Among[i] })
		}
		if d.Kind == api.DdLend {
			d.Until = d.Day + r.IntN(6)
		} else if d.To != "" {
			got[d.Turn] = append(got[d.Turn], d.To)
		}
		l = append(l, d)
	}
	return l
}

// each calls a function with many deeds, and days.
func each(seed uint64, times, n, top int, do func(r *rand.Rand, l []api.Deed, day, known int)) {
	r := chance(seed)
	for range times {
		l := anyDeeds(r, 1+r.IntN(n), top)
		do(r, l, 16-min(r.IntN(17), r.IntN(17)), 20-min(r.IntN(20), r.IntN(20)))
	}
}
