package watch_test

import (
	"math/rand/v2"
	"slices"
	"testing"

	"drowner/api"
	"drowner/watch"
)

// P7.4, P7.11: Core and Suspects, in all courses.
func TestCore(t *testing.T) {
	none, some, suspects := 0, 0, 0
	small(20, 900, func(r *rand.Rand, w api.Watch) {
		l, e := watch.Core(w)
		s, f := watch.Suspects(w)
		if !noCourse(w) {
			some++
			if len(l)+len(s) > 0 || e != api.ErrNone || f != api.OK {
				t.Fatal(w, l, e, s, f)
			}
			return
		}
		none++
		if !slices.Equal(l, coreOf(w, noCourse)) || e != api.OK {
			t.Fatal(w, l, e)
		}
		wanted := slices.DeleteFunc(idsOf(w), func(id int) bool { return noCourse(only(w, but(idsOf(w), id)...)) })
		if !slices.Equal(s, wanted) || f != api.OK {
			t.Fatal(w, s, f, wanted)
		}
		suspects += len(s)
		if !noCourse(only(w, l...)) {
			t.Fatal(w, l)
		}
		for _, id := range l {
			if noCourse(only(w, but(l, id)...)) {
				t.Fatal(w, l, id)
			}
		}
		for _, id := range s {
			if !slices.Contains(l, id) {
				t.Fatal(w, l, s)
			}
		}
	})
	if none < 100 || some < 300 || suspects < 100 {
		t.Error("only", none, some, suspects)
	}
}

// Where more than one core is there, the words with the least IDs are left out, in whichever order they stand.
func TestCoreOrder(t *testing.T) {
	a, b, c, d := word(1, api.WdOpen, 3, 3), word(2, api.WdShut, 3, 3), word(3, api.WdOpen, 2, 3), word(4, api.WdShut, 3, 4)
	r := chance(21)
	for _, x := range []struct {
		l        []api.Word
		core     []int
		suspects []int
	}{
		{[]api.Word{a, b, c, d}, []int{3, 4}, nil},
		{[]api.Word{a, b, d}, []int{1, 4}, []int{1}},
		{[]api.Word{a, b, c}, []int{2, 3}, []int{2}},
		{[]api.Word{a, b}, []int{1, 2}, []int{1, 2}},
		{[]api.Word{a, c}, nil, nil},
		{nil, nil, nil},
	} {
		for range 10 {
			w := mixed(r, watchOf(1, 1, 5, x.l...))
			l, e := watch.Core(w)
			s, f := watch.Suspects(w)
			if !slices.Equal(l, x.core) || !slices.Equal(s, x.suspects) || f != api.OK || (e == api.OK) != (x.core != nil) {
				t.Error(w, l, e, s, f)
			}
		}
	}
	// A word may contradict itself.
	w := watchOf(1, 1, 5, word(8, api.WdOpened, 0, 0), word(3, api.WdOpen, 0, 5))
	l, e := watch.Core(w)
	s, f := watch.Suspects(w)
	if !slices.Equal(l, []int{8}) || !slices.Equal(s, []int{8}) || e != api.OK || f != api.OK {
		t.Error(l, e, s, f)
	}
}

// anyIDs returns some IDs of words, or nearly so.
func anyIDs(r *rand.Rand, w api.Watch) []int {
	l := slices.DeleteFunc(idsOf(w), func(int) bool { return r.IntN(3) == 0 })
	switch r.IntN(12) {
	case 0:
		l = append(l, 1+r.IntN(9))
	case 1:
		slices.Reverse(l)
	case 2:
		if len(l) > 0 {
			l = append(l, l[len(l)-1])
		}
	}
	return l
}

// areIDs reports whether IDs are those of words, in increasing order.
func areIDs(w api.Watch, l []int) bool {
	for i, id := range l {
		if !slices.Contains(idsOf(w), id) || i > 0 && l[i-1] >= id {
			return false
		}
	}
	return true
}

// P7.4: CheckCore takes just the words that have no course.
func TestCheckCore(t *testing.T) {
	errors := map[api.Errno]int{}
	small(22, 900, func(r *rand.Rand, w api.Watch) {
		for range 6 {
			l := anyIDs(r, w)
			wanted := api.OK
			if !areIDs(w, l) {
				wanted = api.ErrArg
			} else if !noCourse(only(w, l...)) {
				wanted = api.ErrProof
			}
			e := watch.CheckCore(w, l)
			errors[e]++
			if e != wanted {
				t.Fatal(w, l, e, wanted)
			}
		}
		if l, e := watch.Core(w); e == api.OK && watch.CheckCore(w, l) != api.OK {
			t.Fatal(w, l)
		}
	})
	if errors[api.OK] < 100 || errors[api.ErrArg] < 100 || errors[api.ErrProof] < 100 {
		t.Error("only", errors)
	}
}

func TestCheckCoreSentences(t *testing.T) {
	for _, x := range []struct {
		ids  []int
		want api.Errno
	}{
		{[]int{3, 4}, api.OK},
		{[]int{1, 2, 3, 4}, api.OK},
		{[]int{1, 2, 3}, api.ErrProof},
		{nil, api.ErrProof},
		{[]int{4, 3}, api.ErrArg},
		{[]int{3, 3, 4}, api.ErrArg},
		{[]int{3, 4, 4}, api.ErrArg},
		{[]int{3, 4, 5}, api.ErrArg},
		{[]int{0, 3, 4}, api.ErrArg},
		{[]int{-1}, api.ErrArg},
		{[]int{2, 1}, api.ErrArg},
		{[]int{1<<63 - 1}, api.ErrArg},
	} {
		if e := watch.CheckCore(broken(), x.ids); e != x.want {
			t.Error(x, e)
		}
	}
}

// P7.5: Rests, in all courses.
func TestRests(t *testing.T) {
	none, some, all := 0, 0, 0
	small(23, 500, func(r *rand.Rand, w api.Watch) {
		l := courses(w)
		for m := range w.Last + 1 {
			ids, e := watch.Rests(w, m)
			if len(l) == 0 {
				none++
				if len(ids) > 0 || e != api.ErrClash {
					t.Fatal(w, m, ids, e)
				}
				continue
			}
			open, shut := canAt(l, m)
			wanted := slices.DeleteFunc(idsOf(w), func(id int) bool {
				a, b := canAt(courses(only(w, but(idsOf(w), id)...)), m)
				return a == open && b == shut
			})
			if !slices.Equal(ids, wanted) || e != api.OK {
				t.Fatal(w, m, ids, e, wanted)
			}
			if len(ids) > 0 {
				some++
			}
			all++
		}
	})
	if none < 100 || some < 500 || all < some+500 {
		t.Error("only", none, some, all)
	}
}

// P7.11: with a further word no course comes to be, and what was sure still is.
func TestFurtherWords(t *testing.T) {
	again, none := 0, 0
	large(24, 60, func(r *rand.Rand, w api.Watch) {
		if len(w.Words) == 0 {
			return
		}
		last := len(w.Words) - 1
		less := w
		less.Words = w.Words[:last]
		open, shut, e := watch.Surely(less)
		more, never, f := watch.Surely(w)
		if e == api.ErrClash {
			none++
			want(t, "Surely", f, api.ErrClash)
			return
		}
		if f != api.OK {
			return
		}
		again++
		for m := range w.Last + 1 {
			if isAllowed(open, m) && !isAllowed(more, m) || isAllowed(shut, m) && !isAllowed(never, m) {
				t.Fatal(w, m, open, more, shut, never)
			}
		}
	})
	if again < 20 || none < 3 {
		t.Error("only", again, none)
	}
}

// P7.4, P7.11: great watches, compared with a walk from minute to minute.
func TestLargeCore(t *testing.T) {
	cores := 0
	large(25, 40, func(r *rand.Rand, w api.Watch) {
		l, e := watch.Core(w)
		if e != api.OK {
			return
		}
		cores++
		if _, is := cheapest(only(w, l...), free); is {
			t.Fatal(w, l)
		}
		for _, id := range l {
			if _, is := cheapest(only(w, but(l, id)...), free); !is {
				t.Fatal(w, l, id)
			}
		}
		s, e := watch.Suspects(w)
		if e != api.OK {
			t.Fatal(w, e)
		}
		for _, id := range idsOf(w) {
			_, is := cheapest(only(w, but(idsOf(w), id)...), free)
			if is != slices.Contains(s, id) || is && !slices.Contains(l, id) {
				t.Fatal(w, id, is, s, l)
			}
		}
	})
	if cores < 5 {
		t.Error("only", cores)
	}
}
