package carrier_test

import (
	"slices"
	"testing"

	"drowner/api"
	"drowner/carrier"
)

// P2.4: signs by their definition.
func TestSigns(t *testing.T) {
	r := chance(7)
	for range 400 {
		w := anyWorks(r, 6, 12, 2, 5, 2)
		for i, x := range sites(w) {
			a, b, c, e := carrier.Signs(w, x.o.ID)
			h, o, l := signsOf(w, i)
			if e != api.OK || !slices.Equal(a, h) || !slices.Equal(b, o) || !slices.Equal(c, l) {
				t.Fatal(w, x, a, b, c, e)
			}
		}
	}
}

// P2.5: what fits is in all spans.
func TestFits(t *testing.T) {
	r := chance(8)
	found := map[bool]int{}
	for range 1000 {
		w := anyWorks(r, 3, 4, 3, 5, 3)
		c := anyCase(r, w, 10, 8)
		if r.IntN(2) == 0 {
			c = all(w, span(0, 12))
		}
		s := anyWater(r, w, all(w, span(0, 12)))
		fits := true
		for i, x := range c.River {
			fits = fits && x.Lo <= s.River[i] && s.River[i] <= x.Hi
		}
		for i, x := range c.Boards {
			fits = fits && x.Lo <= s.Boards[i] && s.Boards[i] <= x.Hi
		}
		is, e := carrier.Fits(w, c, s)
		if e != api.OK || is != fits {
			t.Fatal(w, c, s, is, e)
		}
		found[is]++
	}
	if found[true] < 100 || found[false] < 100 {
		t.Error("too few of a kind", found)
	}
}

// P2.6, P2.12: the ends are those of all that fits; they are attained as the signs say.
func TestEnds(t *testing.T) {
	r := chance(9)
	for range 250 {
		w := anyWorks(r, 3, 3, 3, 6, 3)
		c := anyCase(r, w, 20, 5)
		spans, e := carrier.Spans(w, c)
		if e != api.OK || len(spans) != len(sites(w)) {
			t.Fatal(w, c, spans, e)
		}
		for i, x := range sites(w) {
			y, e := carrier.Ends(w, c, x.o.ID)
			if e != api.OK || y.Flow != bruteEnds(w, c, i) || y.Flow != spans[i] {
				t.Fatal(w, c, i, y, spans, e)
			}
			if !sameWater(y.Least, endOf(w, c, i, true)) || !sameWater(y.Most, endOf(w, c, i, false)) {
				t.Fatal(w, c, i, y)
			}
			want(t, "CheckEnds", carrier.CheckEnds(w, c, x.o.ID, y), api.OK)
		}
	}
}

// P2.12: what flows lies between the ends, which narrower spans do not move outwards.
func TestNarrower(t *testing.T) {
	r := chance(10)
	for range 300 {
		w := anyWorks(r, 5, 14, 4, 9, 5)
		c := anyCase(r, w, 60, 40)
		wide, e := carrier.Spans(w, c)
		want(t, "Spans", e, api.OK)
		for range 5 {
			s := anyWater(r, w, c)
			for i, f := range flow(t, w, s) {
				if f < wide[i].Lo || f > wide[i].Hi {
					t.Fatal(w, c, s, i)
				}
			}
		}
		d := copyCase(c)
		for _, l := range [][]api.Span{d.River, d.Boards} {
			for i, x := range l {
				lo := x.Lo + r.IntN(x.Hi-x.Lo+1)
				l[i] = span(lo, lo+r.IntN(x.Hi-lo+1))
			}
		}
		narrow, e := carrier.Spans(w, d)
		want(t, "Spans", e, api.OK)
		for i := range wide {
			if narrow[i].Lo < wide[i].Lo || narrow[i].Hi > wide[i].Hi {
				t.Fatal(w, c, d, i)
			}
		}
	}
}

// P2.6: CheckEnds takes another water with the same flow, and nothing else.
func TestCheckEnds(t *testing.T) {
	w, c := meadow(), known()
	good, _ := carrier.Ends(w, c, 4)
	for i, x := range []struct {
		do func(x *api.Supply)
		e  api.Errno
	}{
		{func(x *api.Supply) {}, api.OK},
		{func(x *api.Supply) { *x = api.Supply{} }, api.ErrProof},
		{func(x *api.Supply) { x.Flow.Lo-- }, api.ErrProof}, {func(x *api.Supply) { x.Flow.Lo++ }, api.ErrProof}, {func(x *api.Supply) { x.Flow.Hi-- }, api.ErrProof}, {func(x *api.Supply) { x.Flow.Hi++ }, api.ErrProof},
		{func(x *api.Supply) { x.Flow = span(22, 17) }, api.ErrProof},
		{func(x *api.Supply) { x.Flow.Lo, x.Least = 22, copyWater(x.Most) }, api.ErrProof}, {func(x *api.Supply) { x.Flow.Hi, x.Most = 17, copyWater(x.Least) }, api.ErrProof},
		{func(x *api.Supply) { x.Least, x.Most = x.Most, x.Least }, api.ErrProof},
		{func(x *api.Supply) { x.Least = copyWater(x.Most) }, api.ErrProof}, {func(x *api.Supply) { x.Most = copyWater(x.Least) }, api.ErrProof},
		{func(x *api.Supply) { x.Most = now() }, api.OK}, {func(x *api.Supply) { x.Most.River = []int{99} }, api.OK}, {func(x *api.Supply) { x.Most.Boards[1] = 1 }, api.OK},
		{func(x *api.Supply) { x.Most.River = []int{101} }, api.ErrProof}, // does not fit
		{func(x *api.Supply) { x.Most.Boards[2] = 1 }, api.ErrProof},      // does not fit, but as much flows
		{func(x *api.Supply) { x.Least.Boards[1] = 1 }, api.OK},           // behind the path
		{func(x *api.Supply) { x.Least.Losses[1] = 10 }, api.OK}, {func(x *api.Supply) { x.Least.Losses[1] = 11 }, api.ErrProof},
		{func(x *api.Supply) { x.Least = api.Water{} }, api.ErrProof}, {func(x *api.Supply) { x.Most = api.Water{} }, api.ErrProof},
		{func(x *api.Supply) { x.Least.Leaks = x.Least.Leaks[:3] }, api.ErrProof}, {func(x *api.Supply) { x.Least.River = append(x.Least.River, 60) }, api.ErrProof}, {func(x *api.Supply) { x.Least.Boards = append(x.Least.Boards, 0) }, api.ErrProof},
		{func(x *api.Supply) { x.Least.Boards[0] = -1 }, api.ErrProof}, {func(x *api.Supply) { x.Least.Boards[0] = 1 << 62 }, api.ErrProof},
	} {
		y := api.Supply{Flow: good.Flow, Least: copyWater(good.Least), Most: copyWater(good.Most)}
		x.do(&y)
		if e := carrier.CheckEnds(w, c, 4, y); e != x.e {
			t.Error(i, e)
		}
	}
	want(t, "the ends of another one", carrier.CheckEnds(w, c, 3, good), api.ErrProof)
}

// P2.7: the boards without which the ends would be others.
func TestRests(t *testing.T) {
	r := chance(11)
	some := 0
	for range 150 {
		w := anyWorks(r, 3, 3, 3, 6, 2)
		c := anyCase(r, w, 20, 4)
		for i, x := range sites(w) {
			var rests []int
			for j, y := range sites(w) {
				d := copyCase(c)
				d.Boards[j] = span(0, len(y.o.Passes)-1)
				if bruteEnds(w, d, i) != bruteEnds(w, c, i) {
					rests = append(rests, y.o.ID)
				}
			}
			l, e := carrier.Rests(w, c, x.o.ID)
			if e != api.OK || !slices.Equal(l, rests) {
				t.Fatal(w, c, x, l, rests, e)
			}
			some += len(rests)
		}
	}
	if some < 50 {
		t.Error("too few", some)
	}
}

// P2.13: more of what has the sign 1, less of what has -1, and any of all else gives no less.
func TestMore(t *testing.T) {
	r := chance(12)
	for range 300 {
		w := anyWorks(r, 5, 14, 4, 9, 5)
		c := all(w, span(0, 80))
		s := anyWater(r, w, c)
		before := flow(t, w, s)
		for i, x := range sites(w) {
			heads, hatches, reaches, e := carrier.Signs(w, x.o.ID)
			want(t, "Signs", e, api.OK)
			y := anyWater(r, w, c)
			move := func(sign int, old int, place *int) {
				if (*place-old)*sign < 0 {
					*place = old
				}
			}
			for h := range y.River {
				move(heads[h], s.River[h], &y.River[h])
			}
			for j := range before {
				move(hatches[j], s.Boards[j], &y.Boards[j])
				move(hatches[j], s.Leaks[j], &y.Leaks[j])
				move(reaches[j], s.Losses[j], &y.Losses[j])
			}
			if flow(t, w, y)[i] < before[i] {
				t.Fatal(w, s, y, i)
			}
		}
	}
}

// The chapter's examples: works, and what flows there.
func TestExamplesOfFlows(t *testing.T) {
	w := meadow()
	through := flow(t, w, now())
	tails, _ := carrier.Tails(w, now())
	lost, _ := carrier.Lost(w, now())
	if !slices.Equal(through, []int{45, 31, 20, 22}) || !slices.Equal(tails, []int{12, 0}) || lost != 15 {
		t.Error(through, tails, lost)
	}
	path, _ := carrier.Path(w, 4)
	below, _ := carrier.Below(w, 1)
	if !slices.Equal(path, []int{1, 4}) || !slices.Equal(below, []int{3, 4}) {
		t.Error(path, below)
	}
	alone := api.Works{Carriers: meadow().Carriers[:1]}
	outlet(&alone, 1).Into = -1
	if x, _ := carrier.Without(w, 1); !sameWorks(x, alone) {
		t.Error(x)
	}
}

// The chapter's examples: signs, ends, wishes and courses.
func TestExamples(t *testing.T) {
	w, c := meadow(), known()
	a, b, d, _ := carrier.Signs(w, 4)
	if !slices.Equal(a, []int{1}) || !slices.Equal(b, []int{1, 0, -1, 1}) || !slices.Equal(d, []int{-1, 0, -1, -1}) {
		t.Error(a, b, d)
	}
	spans, _ := carrier.Spans(w, c)
	if !slices.Equal(spans, []api.Span{span(40, 85), span(0, 31), span(20, 20), span(17, 22)}) {
		t.Error(spans)
	}
	x, _ := carrier.Ends(w, c, 4)
	if x.Flow != span(17, 22) || !sameWater(x.Least, api.Water{River: []int{60}, Boards: []int{1, 0, 2, 1}, Leaks: []int{0, 1, 0, 0}, Losses: []int{4, 0, 3, 0}}) {
		t.Error(x)
	}
	four, _ := carrier.Rests(w, c, 4)
	two, _ := carrier.Rests(w, c, 2)
	if !slices.Equal(four, []int{1, 3, 4}) || len(two) > 0 {
		t.Error(four, two)
	}
	board, e := carrier.Open(w, now(), 4, 21)
	none, f := carrier.Open(w, now(), 3, 45)
	if board != 1 || e != api.OK || none != 0 || f != api.ErrNone {
		t.Error(board, none, e, f)
	}
	n, _ := carrier.Send(w, now(), 4, 22)
	l, _ := carrier.Drunk(w, []api.Run{{Minutes: 60, Water: now()}})
	if n != 47 || !slices.Equal(l, []int{2700, 1860, 1200, 1320}) {
		t.Error(n, l)
	}
}
