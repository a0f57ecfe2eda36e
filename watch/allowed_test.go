package watch_test

import (
	"math/rand/v2"
	"slices"
	"testing"

	"drowner/api"
	"drowner/watch"
)

// P7.6, P7.9, P7.12: Stolen and Loss, in all courses.
func TestStolen(t *testing.T) {
	none, yes, no := 0, 0, 0
	small(30, 900, func(r *rand.Rand, w api.Watch) {
		all := courses(w)
		for range 3 {
			allowed := anyAllowed(r, w.Last)
			l, c, is, e := watch.Stolen(w, allowed)
			n, d, f := watch.Loss(w, allowed)
			if len(all) == 0 {
				none++
				if len(l)+len(c)+len(d)+n > 0 || is || e != api.ErrClash || f != api.ErrClash {
					t.Fatal(w, allowed, l, c, is, e, n, d, f)
				}
				continue
			}
			of := func(c []bool) int { return stolenIn(c, allowed) }
			least := slices.Min(values(all, of))
			if n != least || !isCourse(w, d) || of(d) != n || f != api.OK {
				t.Fatal(w, allowed, n, d, f, least)
			}
			if is != (least > 0) || e != api.OK {
				t.Fatal(w, allowed, is, e, least)
			}
			if is {
				yes++
				if len(c) > 0 || !slices.Equal(l, coreOf(w, noneIn(allowed))) || watch.CheckStolen(w, allowed, l) != api.OK {
					t.Fatal(w, allowed, l, c)
				}
				continue
			}
			no++
			if len(l) > 0 || !isCourse(w, c) || of(c) > 0 {
				t.Fatal(w, allowed, l, c)
			}
		}
	})
	if none < 200 || yes < 200 || no < 200 {
		t.Error("only", none, yes, no)
	}
}

// P7.6, P7.12: CheckStolen takes just the words all courses of which are open when it is not allowed.
func TestCheckStolen(t *testing.T) {
	errors := map[api.Errno]int{}
	small(31, 900, func(r *rand.Rand, w api.Watch) {
		for range 5 {
			l, allowed := anyIDs(r, w), anyAllowed(r, w.Last)
			wanted := api.OK
			if !areIDs(w, l) {
				wanted = api.ErrArg
			} else if !noneIn(allowed)(only(w, l...)) {
				wanted = api.ErrProof
			}
			e := watch.CheckStolen(w, allowed, l)
			errors[e]++
			if e != wanted {
				t.Fatal(w, allowed, l, e, wanted)
			}
			if e == api.OK && !noneIn(allowed)(w) {
				t.Fatal(w, allowed, l)
			}
		}
	})
	if errors[api.OK] < 200 || errors[api.ErrArg] < 200 || errors[api.ErrProof] < 200 {
		t.Error("only", errors)
	}
}

func TestCheckStolenSentences(t *testing.T) {
	four := spans(span(4, 5))
	for _, x := range []struct {
		w       api.Watch
		allowed []api.Span
		ids     []int
		want    api.Errno
	}{
		{example(), four, []int{2}, api.OK},
		{example(), four, []int{1, 2, 3}, api.OK},
		{example(), four, []int{1, 3}, api.ErrProof},
		{example(), four, nil, api.ErrProof},
		{example(), spans(span(2, 5)), []int{1, 2, 3}, api.ErrProof},
		{example(), spans(span(5, 9)), []int{2}, api.OK},
		{example(), nil, []int{2}, api.OK},
		{example(), nil, []int{1}, api.ErrProof},
		{example(), four, []int{4}, api.ErrArg},
		{example(), four, []int{2, 2}, api.ErrArg},
		{example(), four, []int{2, 1}, api.ErrArg},
		{broken(), spans(span(0, 9)), []int{3, 4}, api.OK},
		{broken(), spans(span(0, 9)), []int{4}, api.ErrProof},
		{broken(), spans(span(0, 5)), []int{4}, api.OK},
	} {
		if e := watch.CheckStolen(x.w, x.allowed, x.ids); e != x.want {
			t.Error(x, e)
		}
	}
}

// apart returns so many spans of one minute, as near to each other as they may be.
func apart(n int) []api.Span {
	var l []api.Span
	for i := range n {
		l = append(l, span(2*i, 2*i))
	}
	return l
}

type badMinutes struct {
	allowed []api.Span
	want    api.Errno
}

// badAllowed returns minutes that are not right, with the error of each.
func badAllowed() []badMinutes {
	const most = 1<<63 - 1
	return []badMinutes{
		{spans(span(-1, 5)), api.ErrArg},
		{spans(span(-5, -3)), api.ErrArg},
		{spans(span(5, 4)), api.ErrArg},
		{spans(span(2, 3), span(4, 4)), api.ErrArg},
		{spans(span(2, 3), span(4, 9)), api.ErrArg},
		{spans(span(2, 3), span(3, 4)), api.ErrArg},
		{spans(span(2, 3), span(3, 9)), api.ErrArg},
		{spans(span(2, 3), span(0, 9)), api.ErrArg},
		{spans(span(2, 3), span(0, 0)), api.ErrArg},
		{spans(span(2, 3), span(2, 3)), api.ErrArg},
		{spans(span(2, 3), span(6, 5)), api.ErrArg},
		{spans(span(0, most), span(2, 3)), api.ErrArg},
		{spans(span(0, most), span(most, most)), api.ErrArg},
		{spans(span(0, most-1), span(most, most)), api.ErrArg},
		{spans(span(-1<<63, most)), api.ErrArg},
		{spans(span(2, 3), span(-1<<63, 0)), api.ErrArg},
		{append(apart(400), span(799, 799)), api.ErrArg},
		{append(apart(400), span(900, 899)), api.ErrArg},
		{append(spans(span(5, 4)), apart(400)...), api.ErrArg},
		{apart(401), api.ErrLimit},
		{apart(1000), api.ErrLimit},
	}
}

// Minutes behind the last one are allowed or not, whatever the watch.
func TestAllowed(t *testing.T) {
	const most = 1<<63 - 1
	w := example()
	for _, x := range badAllowed() {
		_, _, e := watch.Loss(w, x.allowed)
		want(t, "Loss", e, x.want)
	}
	for _, x := range []struct {
		allowed []api.Span
		loss    int
	}{
		{nil, 3},
		{[]api.Span{}, 3},
		{spans(span(10, 12)), 3},
		{spans(span(most, most)), 3},
		{spans(span(0, most)), 0},
		{spans(span(4, most)), 0},
		{spans(span(0, 1), span(3, most-2), span(most, most)), 0},
		{spans(span(4, 4), span(6, 6)), 1},
		{spans(span(4, 4), span(6, 9)), 1},
		{apart(400), 1},
		{spans(span(0, 3), span(5, 9)), 1},
		{spans(span(4, 4)), 2},
	} {
		n, c, e := watch.Loss(w, x.allowed)
		if n != x.loss || e != api.OK || !isCourse(w, c) || stolenIn(c, x.allowed) != n {
			t.Error(x, n, c, e)
		}
		_, _, is, e := watch.Stolen(w, x.allowed)
		if is != (x.loss > 0) || e != api.OK {
			t.Error(x, is, e)
		}
	}
}

// P7.6, P7.12: great watches, compared with a walk from minute to minute; with more minutes allowed the loss is not greater.
func TestLargeLoss(t *testing.T) {
	yes, no := 0, 0
	large(32, 50, func(r *rand.Rand, w api.Watch) {
		allowed := anyAllowed(r, w.Last)
		paid := func(m int, open, _ bool) int {
			if open && !isAllowed(allowed, m) {
				return 1
			}
			return 0
		}
		least, some := cheapest(w, paid)
		n, c, e := watch.Loss(w, allowed)
		if !some {
			want(t, "Loss", e, api.ErrClash)
			return
		}
		if n != least || e != api.OK || !isCourse(w, c) || stolenIn(c, allowed) != n {
			t.Fatal(w, allowed, n, c, e, least)
		}
		l, d, is, e := watch.Stolen(w, allowed)
		if is != (n > 0) || e != api.OK {
			t.Fatal(w, allowed, is, e)
		}
		if is {
			yes++
			if watch.CheckStolen(w, allowed, l) != api.OK {
				t.Fatal(w, allowed, l)
			}
			for _, id := range l {
				want(t, "CheckStolen", watch.CheckStolen(w, allowed, but(l, id)), api.ErrProof)
			}
		} else {
			no++
			if !isCourse(w, d) || stolenIn(d, allowed) > 0 {
				t.Fatal(w, allowed, d)
			}
		}
		for i := range allowed {
			allowed = slices.Delete(allowed, len(allowed)-1, len(allowed))
			more, _, e := watch.Loss(w, allowed)
			if more < n || e != api.OK {
				t.Fatal(w, allowed, i, more, n, e)
			}
			n = more
		}
	})
	if yes < 10 || no < 3 {
		t.Error("only", yes, no)
	}
}
