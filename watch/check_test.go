package watch_test

import (
	"math/rand/v2"
	"slices"
	"testing"

	"drowner/api"
	"drowner/watch"
)

// many returns so many words of a kind, with the IDs from 1 on.
func many(n, kind int) []api.Word {
	var l []api.Word
	for i := range n {
		l = append(l, word(i+1, kind, 0, 9))
	}
	return l
}

type badWatch struct {
	name string
	w    api.Watch
	want api.Errno
}

// badWatches returns watches that are not valid, with the error of each.
func badWatches() []badWatch {
	ok := word(1, api.WdOpen, 2, 4)
	six := slices.Concat(many(3, api.WdOpened), many(3, api.WdClosed))
	for i := range six {
		six[i].ID = 10 + i
	}
	return []badWatch{
		{"nothing", api.Watch{}, api.ErrArg},
		{"a hatch that need not stay open", watchOf(0, 1, 9), api.ErrArg},
		{"a hatch that need not stay shut", watchOf(1, 0, 9), api.ErrArg},
		{"a hatch that stays open for less than nothing", watchOf(-1, 1, 9), api.ErrArg},
		{"a hatch that stays open for too long", watchOf(61, 1, 9), api.ErrArg},
		{"a hatch that stays shut for too long", watchOf(1, 61, 9), api.ErrArg},
		{"no minute", watchOf(1, 1, -1), api.ErrArg},
		{"too many minutes", watchOf(1, 1, 401), api.ErrArg},
		{"too many minutes and words", watchOf(1, 1, 401, many(41, api.WdOpen)...), api.ErrArg},
		{"no hatch and too many words", watchOf(0, 0, 9, many(41, api.WdOpen)...), api.ErrArg},
		{"41 words", watchOf(1, 1, 9, many(41, api.WdOpen)...), api.ErrLimit},
		{"41 words, the first of which is wrong", watchOf(1, 1, 5, many(41, api.WdShut)...), api.ErrLimit},
		{"41 words with the same ID", watchOf(1, 1, 9, slices.Repeat(many(1, api.WdShut), 41)...), api.ErrLimit},
		{"6 words of openings", watchOf(1, 1, 9, many(6, api.WdOpened)...), api.ErrLimit},
		{"6 words of closings", watchOf(1, 1, 9, many(6, api.WdClosed)...), api.ErrLimit},
		{"6 words of both", watchOf(1, 1, 9, six...), api.ErrLimit},
		{"6 words of both, behind a wrong one", watchOf(1, 1, 9, slices.Concat([]api.Word{{}}, six)...), api.ErrLimit},
		{"6 words of both, with the same ID, and wrong spans", watchOf(1, 1, 3, slices.Repeat(six[:1], 6)...), api.ErrLimit},
		{"a word 0", watchOf(1, 1, 9, word(0, api.WdOpen, 2, 4)), api.ErrArg},
		{"a word less than 0", watchOf(1, 1, 9, word(-1, api.WdOpen, 2, 4)), api.ErrArg},
		{"a word that is too great", watchOf(1, 1, 9, word(api.MaxID+1, api.WdOpen, 2, 4)), api.ErrArg},
		{"a word of no kind", watchOf(1, 1, 9, word(1, 0, 2, 4)), api.ErrArg},
		{"a word of a fifth kind", watchOf(1, 1, 9, word(1, 5, 2, 4)), api.ErrArg},
		{"a word of a kind less than 0", watchOf(1, 1, 9, word(1, -1, 2, 4)), api.ErrArg},
		{"ahead of the first minute", watchOf(1, 1, 9, word(1, api.WdShut, -1, 4)), api.ErrArg},
		{"behind the last minute", watchOf(1, 1, 9, word(1, api.WdShut, 2, 10)), api.ErrArg},
		{"no span", watchOf(1, 1, 9, word(1, api.WdOpened, 4, 3)), api.ErrArg},
		{"the greatest numbers", watchOf(1, 1, 9, word(1, api.WdClosed, -1<<63, 1<<63-1)), api.ErrArg},
		{"an ID twice", watchOf(1, 1, 9, ok, word(2, api.WdShut, 0, 0), ok), api.ErrTwice},
		{"an ID twice, in a wrong word", watchOf(1, 1, 9, ok, word(1, api.WdShut, 0, 10)), api.ErrArg},
		{"an ID twice, then a wrong word", watchOf(1, 1, 9, ok, ok, word(0, api.WdShut, 0, 0)), api.ErrTwice},
		{"a wrong word, then an ID twice", watchOf(1, 1, 9, word(2, 9, 0, 0), ok, ok), api.ErrArg},
	}
}

// P7.1: Check.
func TestCheck(t *testing.T) {
	for _, x := range badWatches() {
		want(t, x.name, watch.Check(x.w), x.want)
	}
	five := slices.Concat(many(35, api.WdOpen), many(5, api.WdClosed))
	for i := range five {
		five[i].ID = api.MaxID - i
	}
	for i, w := range []api.Watch{
		example(), broken(), watchOf(1, 1, 0), watchOf(60, 60, 400), watchOf(1, 60, 9), watchOf(60, 1, 9),
		watchOf(1, 1, 9, many(40, api.WdShut)...), watchOf(1, 1, 9, many(5, api.WdOpened)...), watchOf(1, 1, 9, five...),
		watchOf(1, 1, 400, word(1, api.WdClosed, 0, 400), word(2, api.WdOpened, 400, 400), word(api.MaxID, api.WdOpen, 0, 0)),
	} {
		if e := watch.Check(w); e != api.OK {
			t.Error(i, w, e)
		}
	}
}

// P7.1: Keeps, for all lists of up to ten minutes.
func TestKeeps(t *testing.T) {
	for long := 1; long <= 10; long++ {
		for _, c := range lists(long) {
			for open := 1; open <= 4; open++ {
				for shut := 1; shut <= 4; shut++ {
					h := api.Hatch{Open: open, Shut: shut}
					if is, e := watch.Keeps(h, c); is != keepsHatch(h, c) || e != api.OK {
						t.Fatal(h, c, is, e)
					}
				}
			}
		}
	}
}

func TestKeepsEdges(t *testing.T) {
	for _, x := range []struct {
		open, shut int
		c          []bool
		is         bool
		want       api.Errno
	}{
		{1, 1, nil, false, api.ErrArg},
		{1, 1, []bool{}, false, api.ErrArg},
		{1, 1, make([]bool, 402), false, api.ErrArg},
		{60, 60, make([]bool, 401), true, api.OK},
		{60, 60, []bool{true}, true, api.OK},
		{0, 1, drawn("o"), false, api.ErrArg},
		{1, 0, drawn("o"), false, api.ErrArg},
		{61, 1, drawn("o"), false, api.ErrArg},
		{1, 61, drawn("o"), false, api.ErrArg},
		{-5, 1, nil, false, api.ErrArg},
		{2, 3, drawn(".ooo."), true, api.OK},
		{2, 3, drawn(".oo."), true, api.OK},
		{2, 3, drawn(".o."), false, api.OK},
		{2, 3, drawn("o."), true, api.OK},
		{2, 3, drawn("o...o"), true, api.OK},
		{2, 3, drawn("o..o"), false, api.OK},
		{2, 3, drawn("..o"), true, api.OK},
		{60, 60, slices.Concat(drawn("."), slices.Repeat(drawn("o"), 60), drawn(".")), true, api.OK},
		{60, 60, slices.Concat(drawn("."), slices.Repeat(drawn("o"), 59), drawn(".")), false, api.OK},
		{60, 60, slices.Concat(drawn("."), slices.Repeat(drawn("o"), 59)), true, api.OK},
	} {
		is, e := watch.Keeps(api.Hatch{Open: x.open, Shut: x.shut}, x.c)
		if is != x.is || e != x.want {
			t.Error(x, is, e)
		}
	}
}

// P7.1: Fits, for all lists of as many minutes.
func TestFits(t *testing.T) {
	yes, first, no := 0, 0, 0
	small(1, 300, func(r *rand.Rand, w api.Watch) {
		for _, c := range lists(w.Last + 1) {
			id, is, e := watch.Fits(w, c)
			wanted := 0
			if keepsHatch(w.Hatch, c) {
				wanted = firstBroken(w, c)
			}
			if id != wanted || is != isCourse(w, c) || e != api.OK {
				t.Fatal(w, c, id, is, e)
			}
			switch {
			case is:
				yes++
			case id > 0:
				first++
			default:
				no++
			}
		}
		for _, long := range []int{0, w.Last, w.Last + 2} {
			if id, is, e := watch.Fits(w, make([]bool, long)); id != 0 || is || e != api.ErrArg {
				t.Fatal(w, long, id, is, e)
			}
		}
	})
	if yes < 300 || first < 3000 || no < 3000 {
		t.Error("only", yes, first, no)
	}
}

// Each sentence on words counts by itself. The first word is the first one of the list, not the one with the least ID.
func TestFitsSentences(t *testing.T) {
	for _, x := range []struct {
		kind, lo, hi int
		c            string
		is           bool
	}{
		{api.WdOpen, 1, 2, ".oo..", true},
		{api.WdOpen, 0, 2, ".oo..", false},
		{api.WdOpen, 1, 3, ".oo..", false},
		{api.WdOpen, 0, 4, "oo.oo", false},
		{api.WdShut, 3, 4, ".oo..", true},
		{api.WdShut, 2, 4, ".oo..", false},
		{api.WdShut, 0, 1, ".oo..", false},
		{api.WdOpened, 1, 1, ".oo..", true},
		{api.WdOpened, 0, 4, ".oo..", true},
		{api.WdOpened, 2, 4, ".oo..", false},
		{api.WdOpened, 0, 0, "ooo..", false},
		{api.WdOpened, 0, 4, "ooo..", false},
		{api.WdOpened, 3, 3, ".oo..", false},
		{api.WdOpened, 4, 4, "....o", true},
		{api.WdClosed, 3, 3, ".oo..", true},
		{api.WdClosed, 0, 4, ".oo..", true},
		{api.WdClosed, 0, 2, ".oo..", false},
		{api.WdClosed, 4, 4, ".oo..", false},
		{api.WdClosed, 0, 0, ".....", false},
		{api.WdClosed, 1, 1, ".oo..", false},
		{api.WdClosed, 1, 1, "o....", true},
	} {
		w := watchOf(1, 1, 4, word(9, x.kind, x.lo, x.hi))
		id, is, e := watch.Fits(w, drawn(x.c))
		if is != x.is || is != (id == 0) || !is && id != 9 || e != api.OK {
			t.Error(x, id, is, e)
		}
	}
	w := watchOf(1, 1, 4, word(7, api.WdOpen, 0, 1), word(9, api.WdOpen, 0, 0), word(3, api.WdOpen, 1, 1))
	for c, wanted := range map[string]int{".....": 7, "o....": 7, "oo...": 0} {
		if id, _, e := watch.Fits(w, drawn(c)); id != wanted || e != api.OK {
			t.Error(c, id, e)
		}
	}
	w.Words = w.Words[1:]
	if id, _, e := watch.Fits(w, drawn(".....")); id != 9 || e != api.OK {
		t.Error(id, e)
	}
}
