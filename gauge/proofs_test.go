package gauge_test

import (
	"cmp"
	"math/rand/v2"
	"slices"
	"testing"

	"drowner/api"
	"drowner/gauge"
)

// possible is which levels are possible with some Runs (of two gauges; of a second one that is not there, 0).
type possible map[[2]int]map[int]bool

func (p possible) add(runs [2]int, level int) {
	if p[runs] == nil {
		p[runs] = map[int]bool{}
	}
	p[runs][level] = true
}

// pairOf returns Runs as an array.
func pairOf(runs []int) [2]int {
	var a [2]int
	copy(a[:], runs)
	return a
}

// start returns what is possible at the beginning.
func start(w api.Well) possible {
	p := possible{}
	for n := range w.Top + 1 {
		p.add(pairOf([]int{-1, -1}[:len(w.Gauges)]), n)
	}
	return p
}

// then returns what comes of what is possible by the item with a number, level by level.
func then(w api.Well, p possible, at int) possible {
	l := things(w)
	x, minutes := l[at], 0
	if at > 0 {
		minutes = x.minute - l[at-1].minute
	}
	to := possible{}
	for runs, set := range p {
		from := levels(set)
		for n := range w.Top + 1 {
			if !slices.ContainsFunc(from, func(a int) bool { return isStep(w, a, n, minutes) }) {
				continue
			}
			if x.peg != nil {
				if isLevel(w, x, n, false) {
					to.add(runs, n)
				}
				continue
			}
			g := slices.Index(w.Gauges, gaugeOf(w, x.look.Gauge))
			live, stuck := runs, runs
			live[g] = 0
			stuck[g]++
			if isLevel(w, x, n, false) {
				to.add(live, n)
			}
			if b := before(w, *x.look); b != nil && b.Shown == x.look.Shown && runs[g] >= 0 && runs[g] < w.Gauges[g].Stick {
				to.add(stuck, n)
			}
		}
	}
	return to
}

func levels(set map[int]bool) []int {
	var l []int
	for n := range set {
		l = append(l, n)
	}
	slices.Sort(l)
	return l
}

// spansOf returns levels as the fewest spans.
func spansOf(l []int) []api.Span {
	var spans []api.Span
	for i, n := range l {
		if i == 0 || n > l[i-1]+1 {
			spans = append(spans, span(n, n))
		}
		spans[len(spans)-1].Hi = n
	}
	return spans
}

// reachOf returns the stands behind each item, by their definition.
func reachOf(w api.Well) [][]api.Stand {
	var all [][]api.Stand
	p := start(w)
	for i := range things(w) {
		p = then(w, p, i)
		var l []api.Stand
		for runs, set := range p {
			l = append(l, api.Stand{Runs: slices.Clone(runs[:len(w.Gauges)]), Levels: spansOf(levels(set))})
		}
		slices.SortFunc(l, func(a, b api.Stand) int { return slices.Compare(a.Runs, b.Runs) })
		all = append(all, l)
	}
	return all
}

func isStand(w api.Well, x api.Stand) bool {
	for i, l := range x.Levels {
		if l.Lo > l.Hi || l.Lo < 0 || l.Hi > w.Top || i > 0 && l.Lo-x.Levels[i-1].Hi < 2 {
			return false
		}
	}
	return len(x.Runs) == len(w.Gauges)
}

// isProof reports whether stands are a proof that there is no tale, by its definition.
func isProof(w api.Well, proof [][]api.Stand) bool {
	if len(proof) == 0 || len(proof) != len(things(w)) {
		return false
	}
	p := start(w)
	for i, l := range proof {
		here := possible{}
		seen := map[[2]int]bool{}
		for _, x := range l {
			if !isStand(w, x) || seen[pairOf(x.Runs)] {
				return false
			}
			seen[pairOf(x.Runs)] = true
			for _, s := range x.Levels {
				for n := s.Lo; n <= s.Hi; n++ {
					here.add(pairOf(x.Runs), n)
				}
			}
		}
		for runs, set := range then(w, p, i) {
			for n := range set {
				if !here[runs][n] {
					return false
				}
			}
		}
		p = here
	}
	return len(p) == 0
}

func sameStands(a, b [][]api.Stand) bool {
	return slices.EqualFunc(a, b, func(a, b []api.Stand) bool {
		return slices.EqualFunc(a, b, func(a, b api.Stand) bool {
			return slices.Equal(a.Runs, b.Runs) && slices.Equal(a.Levels, b.Levels)
		})
	})
}

func copyOf(p [][]api.Stand) [][]api.Stand {
	var q [][]api.Stand
	for _, l := range p {
		var m []api.Stand
		for _, x := range l {
			m = append(m, api.Stand{Runs: slices.Clone(x.Runs), Levels: slices.Clone(x.Levels)})
		}
		q = append(q, m)
	}
	return q
}

// P3.3: the stands of the chapter's example.
func TestReachExample(t *testing.T) {
	l, e := gauge.Reach(meadow())
	if e != api.OK || !sameStands(l, [][]api.Stand{
		{{Runs: []int{0}, Levels: []api.Span{span(47, 53)}}},
		{{Runs: []int{0}, Levels: []api.Span{span(47, 53)}}, {Runs: []int{1}, Levels: []api.Span{span(37, 73)}}},
		{{Runs: []int{0}, Levels: []api.Span{span(77, 83)}}},
	}) {
		t.Error(l, e)
	}
	l, e = gauge.Reach(api.Well{Top: 5})
	if e != api.OK || len(l) != 0 {
		t.Error("no items", l, e)
	}
	l, e = gauge.Reach(broken())
	if e != api.OK || len(l) != 3 || len(l[1]) != 0 || len(l[2]) != 0 {
		t.Error("no tale", l, e)
	}
}

// P3.3: levels that come apart are told in several spans, and touching ones in one.
func TestReachApart(t *testing.T) {
	w := api.Well{Top: 100, Rise: 1, Gauges: []api.Gauge{{ID: 1, Stick: 1}, {ID: 2, Stick: 1}}, Looks: []api.Look{
		{ID: 1, Gauge: 1, Minute: 0, Shown: 10}, {ID: 2, Gauge: 1, Minute: 10, Shown: 10}, {ID: 3, Gauge: 1, Minute: 20, Shown: 20},
	}, Pegs: []api.Peg{{ID: 4, Minute: 20, Span: span(0, 100)}}}
	l, e := gauge.Reach(w)
	if e != api.OK || !sameStands(l, reachOf(w)) || len(l[1]) != 2 {
		t.Error(l, e)
	}
	wide := api.Well{Top: 9, Gauges: w.Gauges, Pegs: []api.Peg{{ID: 1, Span: span(9, 400)}, {ID: 2, Span: span(0, 400)}}}
	l, e = gauge.Reach(wide)
	if e != api.OK || !sameStands(l, [][]api.Stand{{{Runs: []int{-1, -1}, Levels: []api.Span{span(9, 9)}}}, {{Runs: []int{-1, -1}, Levels: []api.Span{span(9, 9)}}}}) {
		t.Error(l, e)
	}
}

// P3.3, P3.10: what is reached, by the definition; a contradiction is there exactly if no tale is.
func TestReachAgainstLevels(t *testing.T) {
	eachWell(t, 5, 1500, func(w api.Well, all []api.Tale) {
		l, e := gauge.Reach(w)
		if e != api.OK || !sameStands(l, reachOf(w)) {
			t.Error("Reach", l, reachOf(w), e)
		}
		if left := len(l) == 0 || len(l[len(l)-1]) > 0; left != (len(all) > 0) {
			t.Error("the last stands", l, len(all))
		}
		p, is, e := gauge.Contradiction(w)
		if e != api.OK || is != (len(all) == 0) || !is && len(p) > 0 {
			t.Error("Contradiction", p, is, e)
		}
		if is && (!isProof(w, p) || gauge.CheckContradiction(w, p) != api.OK) {
			t.Error("no proof", p)
		}
		if !is {
			want(t, "what is reached", gauge.CheckContradiction(w, l), api.ErrProof)
			want(t, "nothing", gauge.CheckContradiction(w, nil), api.ErrProof)
		}
	})
}

// anyStand returns a stand as it may stand in a proof, or nearly so.
func anyStand(r *rand.Rand, w api.Well) api.Stand {
	var x api.Stand
	for range w.Gauges {
		x.Runs = append(x.Runs, r.IntN(4)-1)
	}
	for n := r.IntN(3); n <= w.Top; n += 1 + r.IntN(3) {
		hi := n + r.IntN(2)
		x.Levels = append(x.Levels, span(n, hi))
		n = hi + 1
	}
	return x
}

// bent returns a proof that is like another one.
func bent(r *rand.Rand, w api.Well, p [][]api.Stand) [][]api.Stand {
	q := copyOf(p)
	i := r.IntN(len(q))
	if len(q[i]) == 0 {
		q[i] = append(q[i], anyStand(r, w))
		return q
	}
	j := r.IntN(len(q[i]))
	x := &q[i][j]
	switch r.IntN(7) {
	case 0:
		q[i] = slices.Delete(q[i], j, j+1)
	case 1:
		q[i] = append(q[i], anyStand(r, w))
	case 2:
		x.Levels = []api.Span{span(0, w.Top)}
	case 3:
		x.Levels = anyStand(r, w).Levels
	case 4:
		if len(x.Runs) > 0 {
			x.Runs[r.IntN(len(x.Runs))] += r.IntN(3) - 1
		}
	case 5:
		for k := range x.Levels {
			x.Levels[k].Lo += r.IntN(3) - 1
			x.Levels[k].Hi += r.IntN(3) - 1
		}
		x.Levels = slices.DeleteFunc(x.Levels, func(s api.Span) bool { return s.Lo > s.Hi && r.IntN(4) > 0 })
	case 6:
		r.Shuffle(len(q[i]), func(a, b int) { q[i][a], q[i][b] = q[i][b], q[i][a] })
	}
	return q
}

// P3.3, P3.10: CheckContradiction by its definition; it takes any proof, not only that of Contradiction, and none for a well with a tale.
func TestProofsAgainstDefinition(t *testing.T) {
	r := chance(6)
	right, wrong := 0, 0
	eachWell(t, 7, 1500, func(w api.Well, all []api.Tale) {
		p := result(gauge.Reach(w))
		if len(p) == 0 {
			return
		}
		for range 30 {
			q := bent(r, w, p)
			if isProof(w, q) != (gauge.CheckContradiction(w, q) == api.OK) {
				t.Error(q, isProof(w, q))
			}
			if !isProof(w, q) {
				wrong++
				continue
			}
			right++
			if len(all) > 0 {
				t.Error("a proof that there is no tale", q, all[0])
			}
			p = q // so that proofs get further and further from what is reached
		}
	})
	if right < 800 || wrong < 1000 {
		t.Error("the proofs are too much alike:", right, wrong)
	}
}

func result[T any](x T, e api.Errno) T {
	if e != api.OK {
		panic(e)
	}
	return x
}

// P3.3: each way in which a stand of a proof is none, and what may stand in a proof, too.
func TestCheckContradiction(t *testing.T) {
	w := broken()
	first := api.Stand{Runs: []int{0}, Levels: []api.Span{span(47, 53)}}
	proof := [][]api.Stand{{first}, nil, nil}
	with := func(at int, l ...api.Stand) [][]api.Stand {
		q := copyOf(proof)
		q[at] = l
		return q
	}
	stand := func(runs []int, spans ...api.Span) api.Stand { return api.Stand{Runs: runs, Levels: spans} }
	for i, x := range []struct {
		e api.Errno
		p [][]api.Stand
	}{
		{api.OK, proof},
		{api.OK, with(0, stand([]int{0}, span(40, 60)))},                           // more than comes
		{api.OK, with(0, first, stand([]int{1}, span(0, 9)))},                      // what comes of nothing
		{api.OK, with(0, stand([]int{1}, span(2, 3), span(5, 5)), first)},          // in another order
		{api.OK, with(0, stand([]int{0}, span(0, 0), span(40, 60), span(62, 62)))}, // in pieces
		{api.OK, with(1, stand([]int{0}))},                                         // without levels
		{api.OK, with(2, stand([]int{0}), stand([]int{1}))},
		{api.ErrProof, with(2, stand([]int{0}), stand([]int{0}))},
		{api.ErrProof, with(2, stand([]int{5}, span(3, 3)))}, // a level is left
		{api.ErrProof, nil},
		{api.ErrProof, proof[:2]},
		{api.ErrProof, append(copyOf(proof), nil)},
		{api.ErrProof, with(0)},
		{api.ErrProof, with(0, stand([]int{0}, span(48, 53)))},
		{api.ErrProof, with(0, stand([]int{0}, span(47, 52)))},
		{api.ErrProof, with(0, stand([]int{0}, span(47, 49), span(51, 53)))},
		{api.ErrProof, with(0, stand([]int{0}, span(47, 50), span(51, 53)))}, // no gap
		{api.ErrProof, with(0, stand([]int{0}, span(47, 53), span(45, 45)))},
		{api.ErrProof, with(0, stand([]int{0}, span(47, 53), span(50, 60)))},
		{api.ErrProof, with(0, stand([]int{0}, span(47, 53), span(60, 59)))},
		{api.ErrProof, with(0, stand([]int{0}, span(-1, 53)))},
		{api.ErrProof, with(0, stand([]int{0}, span(47, 101)))},
		{api.ErrProof, with(0, stand([]int{0}, span(low, far)))},
		{api.ErrProof, with(0, stand([]int{1}, span(47, 53)))},
		{api.ErrProof, with(0, stand(nil, span(47, 53)))},
		{api.ErrProof, with(0, stand([]int{0, -1}, span(47, 53)))},
		{api.ErrProof, with(0, first, first)},
		{api.ErrProof, with(0, first, stand([]int{0}, span(1, 2)))},
		{api.ErrProof, with(0, first, stand([]int{0}))},
		{api.ErrProof, with(0, first, stand([]int{1, 1}))},
		{api.ErrProof, with(1, stand([]int{0}, span(85, 95)))}, // leads on
	} {
		if e := gauge.CheckContradiction(w, x.p); e != x.e {
			t.Error(i, x.p, e)
		}
	}
	want(t, "no items, nothing", gauge.CheckContradiction(api.Well{Top: 5}, nil), api.ErrProof)
	want(t, "no items, a list", gauge.CheckContradiction(api.Well{Top: 5}, [][]api.Stand{nil}), api.ErrProof)
}

// P3.3: too much for a proof comes ahead of all that is wrong in it.
func TestProofLimits(t *testing.T) {
	w := broken()
	p, _, _ := gauge.Contradiction(w)
	for n := range api.MaxStands + 3 {
		q := copyOf(p)
		for i := len(q[0]); i < n; i++ {
			q[0] = append(q[0], api.Stand{Runs: []int{i + 1}})
		}
		e := api.OK
		if n > api.MaxStands {
			e = api.ErrLimit
		}
		want(t, "many stands", gauge.CheckContradiction(w, q), e)
	}
	q := copyOf(p)
	q[2] = make([]api.Stand, api.MaxStands+1)
	want(t, "too many stands, all wrong", gauge.CheckContradiction(w, q), api.ErrLimit)
	want(t, "too many lists", gauge.CheckContradiction(w, make([][]api.Stand, api.MaxLooks+api.MaxPegs+1)), api.ErrLimit)
	want(t, "as many lists as there may be", gauge.CheckContradiction(w, make([][]api.Stand, api.MaxLooks+api.MaxPegs)), api.ErrProof)
	want(t, "without items", gauge.CheckContradiction(api.Well{Top: 5}, make([][]api.Stand, api.MaxLooks+api.MaxPegs+1)), api.ErrLimit)
}

// P3.3, P3.10: the greatest well; a proof needs no more stands than there may be, and it is taken.
func TestBroadProofs(t *testing.T) {
	w := broad()
	l, e := gauge.Reach(w)
	if e != api.OK || len(l) != api.MaxLooks+api.MaxPegs-1 {
		t.Fatal(len(l), e)
	}
	most := slices.MaxFunc(l, func(a, b []api.Stand) int { return cmp.Compare(len(a), len(b)) })
	if len(most) != 36 {
		t.Error(len(most))
	}
	w = asked(w, 160, span(0, 0))
	p, is, e := gauge.Contradiction(w)
	if !is || e != api.OK || len(p) != api.MaxLooks+api.MaxPegs {
		t.Fatal(len(p), is, e)
	}
	want(t, "the proof", gauge.CheckContradiction(w, p), api.OK)
	if !isProof(w, p) {
		t.Error(p)
	}
	p[30][0].Levels[0].Lo++
	want(t, "less than comes", gauge.CheckContradiction(w, p), api.ErrProof)
}
