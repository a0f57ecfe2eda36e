package watch_test

import (
	"math/rand/v2"
	"slices"
	"testing"

	"drowner/api"
)

// The tests compare the package with what the chapter's definitions say, looked up in all lists of bools of small watches, and, for great ones, with a walk from minute to minute.

func span(lo, hi int) api.Span { return api.Span{Lo: lo, Hi: hi} }

func spans(l ...api.Span) []api.Span { return l }

func word(id, kind, lo, hi int) api.Word { return api.Word{ID: id, Kind: kind, At: span(lo, hi)} }

func watchOf(open, shut, last int, words ...api.Word) api.Watch {
	return api.Watch{Hatch: api.Hatch{Open: open, Shut: shut}, Last: last, Words: words}
}

// example is the watch of the chapter's examples, and broken the one that has no course.
func example() api.Watch {
	return watchOf(3, 2, 9, word(1, api.WdShut, 0, 1), word(2, api.WdOpen, 4, 4), word(3, api.WdShut, 8, 8))
}

func broken() api.Watch { return with(example(), word(4, api.WdOpened, 6, 7)) }

// with returns a watch with a further word, in new memory.
func with(w api.Watch, x api.Word) api.Watch {
	w.Words = append(slices.Clone(w.Words), x)
	return w
}

// only returns a watch with the words that have some IDs.
func only(w api.Watch, ids ...int) api.Watch {
	var l []api.Word
	for _, x := range w.Words {
		if slices.Contains(ids, x.ID) {
			l = append(l, x)
		}
	}
	w.Words = l
	return w
}

func idsOf(w api.Watch) []int {
	var l []int
	for _, x := range w.Words {
		l = append(l, x.ID)
	}
	slices.Sort(l)
	return l
}

// but returns a list without a number.
func but(l []int, gone int) []int {
	return slices.DeleteFunc(slices.Clone(l), func(n int) bool { return n == gone })
}

// drawn returns a course as it is drawn: a letter for each minute, o if it is open.
func drawn(text string) []bool {
	c := make([]bool, len(text))
	for i := range c {
		c[i] = text[i] == 'o'
	}
	return c
}

// keepsHatch, keepsWord and firstBroken are as the chapter says.
func keepsHatch(h api.Hatch, c []bool) bool {
	for from := 0; from < len(c); {
		to := from
		for to+1 < len(c) && c[to+1] == c[from] {
			to++
		}
		need := h.Shut
		if c[from] {
			need = h.Open
		}
		if from > 0 && to < len(c)-1 && to-from+1 < need {
			return false
		}
		from = to + 1
	}
	return true
}

func keepsWord(x api.Word, c []bool) bool {
	all, some := true, false
	for m := x.At.Lo; m <= x.At.Hi; m++ {
		all = all && c[m] == (x.Kind == api.WdOpen)
		some = some || m > 0 && c[m] != c[m-1] && c[m] == (x.Kind == api.WdOpened)
	}
	if x.Kind == api.WdOpen || x.Kind == api.WdShut {
		return all
	}
	return some
}

// firstBroken returns the ID of the first word that a course does not keep, or 0.
func firstBroken(w api.Watch, c []bool) int {
	for _, x := range w.Words {
		if !keepsWord(x, c) {
			return x.ID
		}
	}
	return 0
}

func isCourse(w api.Watch, c []bool) bool {
	return len(c) == w.Last+1 && keepsHatch(w.Hatch, c) && firstBroken(w, c) == 0
}

// lists returns all lists of so many bools, in order.
func lists(long int) [][]bool {
	var all [][]bool
	for n := range 1 << long {
		c := make([]bool, long)
		for i := range c {
			c[i] = n>>(long-1-i)&1 == 1
		}
		all = append(all, c)
	}
	return all
}

// courses returns all courses of a small watch, in order.
func courses(w api.Watch) [][]bool {
	return slices.DeleteFunc(lists(w.Last+1), func(c []bool) bool { return !isCourse(w, c) })
}

// isAllowed reports whether a minute is allowed.
func isAllowed(allowed []api.Span, minute int) bool {
	return slices.ContainsFunc(allowed, func(x api.Span) bool { return x.Lo <= minute && minute <= x.Hi })
}

// stolenIn returns in how many minutes that are not allowed a course is open.
func stolenIn(c []bool, allowed []api.Span) int {
	n := 0
	for m, open := range c {
		if open && !isAllowed(allowed, m) {
			n++
		}
	}
	return n
}

// openIn returns in how many minutes of a span a course is open.
func openIn(c []bool, s api.Span) int {
	n := 0
	for m := s.Lo; m <= s.Hi; m++ {
		if c[m] {
			n++
		}
	}
	return n
}

func changesOf(c []bool) int {
	n := 0
	for m := 1; m < len(c); m++ {
		if c[m] != c[m-1] {
			n++
		}
	}
	return n
}

// canAt reports what courses do in a minute.
func canAt(all [][]bool, minute int) (open, shut bool) {
	for _, c := range all {
		open, shut = open || c[minute], shut || !c[minute]
	}
	return open, shut
}

// spansWhere returns numbers up to the last one as the fewest spans.
func spansWhere(last int, is func(n int) bool) []api.Span {
	var l []api.Span
	for n := 0; n <= last; n++ {
		if !is(n) {
			continue
		}
		from := n
		for n < last && is(n+1) {
			n++
		}
		l = append(l, span(from, n))
	}
	return l
}

// coreOf returns the words that are left when those are left out, from the least ID on, without which there still is no course of some kind.
func coreOf(w api.Watch, none func(w api.Watch) bool) []int {
	left := idsOf(w)
	for _, id := range idsOf(w) {
		if none(only(w, but(left, id)...)) {
			left = but(left, id)
		}
	}
	return left
}

func noCourse(w api.Watch) bool { return len(courses(w)) == 0 }

// noneIn returns what reports whether no course is open in allowed minutes only.
func noneIn(allowed []api.Span) func(w api.Watch) bool {
	return func(w api.Watch) bool {
		return !slices.ContainsFunc(courses(w), func(c []bool) bool { return stolenIn(c, allowed) == 0 })
	}
}

// chance returns numbers that are the same in each run.
func chance(seed uint64) *rand.Rand { return rand.New(rand.NewPCG(seed, 7)) }

// anyCourse returns a course that keeps a hatch, whose runs have up to so many more minutes than they must.
func anyCourse(r *rand.Rand, h api.Hatch, last, more int) []bool {
	open := r.IntN(2) == 0
	var c []bool
	for len(c) <= last {
		need := h.Shut
		if open {
			need = h.Open
		}
		if len(c) == 0 {
			need = 1 + r.IntN(need)
		}
		c = append(c, slices.Repeat([]bool{open}, need+r.IntN(more+1))...)
		open = !open
	}
	return c[:last+1]
}

// anyWords returns words, most of which are true of a course; in so many of ten cases, one may be not.
func anyWords(r *rand.Rand, c []bool, count, long, wrong int) []api.Word {
	var l []api.Word
	events := 0
	ids := r.Perm(3 * count)
	for tries := 0; len(l) < count && tries < 50*count; tries++ {
		lo := r.IntN(len(c))
		x := word(2+5*ids[len(l)], 1+r.IntN(4), lo, min(lo+r.IntN(long), len(c)-1))
		isEvent := x.Kind > api.WdShut
		if isEvent && events == api.MaxEvents || !keepsWord(x, c) && r.IntN(10) >= wrong {
			continue
		}
		if isEvent {
			events++
		}
		l = append(l, x)
	}
	return l
}

// anyAllowed returns minutes that are allowed, of which some may lie behind the last minute.
func anyAllowed(r *rand.Rand, last int) []api.Span {
	var l []api.Span
	for from := r.IntN(last + 3); from <= last+2 && len(l) < api.MaxWatch; {
		x := span(from, from+r.IntN(1+last/2))
		l = append(l, x)
		from = x.Hi + 2 + r.IntN(3)
	}
	return l
}

// small does something with watches that have few minutes.
func small(seed uint64, times int, do func(r *rand.Rand, w api.Watch)) {
	r := chance(seed)
	for range times {
		w := watchOf(1+r.IntN(4), 1+r.IntN(4), 3+r.IntN(6))
		if r.IntN(8) == 0 {
			w = watchOf(1+r.IntN(4), 1+r.IntN(4), r.IntN(4))
		}
		c := anyCourse(r, w.Hatch, w.Last, 2)
		w.Words = anyWords(r, c, r.IntN(7), 4, r.IntN(4))
		do(r, w)
	}
}

// large does something with watches of up to as many minutes and words as there can be.
func large(seed uint64, times int, do func(r *rand.Rand, w api.Watch)) {
	r := chance(seed)
	for range times {
		most := 1 + r.IntN(api.MaxStay)
		w := watchOf(1+r.IntN(most), 1+r.IntN(most), 30+r.IntN(api.MaxWatch-29))
		c := anyCourse(r, w.Hatch, w.Last, r.IntN(40))
		w.Words = anyWords(r, c, r.IntN(api.MaxWords+1), 1+r.IntN(80), r.IntN(2))
		do(r, w)
	}
}

// moment is what matters of a course up to a minute.
type moment struct {
	open bool
	age  int
	told int // the events that came, as bits
}

// price is what a course costs in a minute: whether it is open in it, and whether it was changed then.
type price func(minute int, open, changed bool) int

// cheapest returns the least price of the courses of a watch, from minute to minute, and whether there is any.
func cheapest(w api.Watch, p price) (int, bool) {
	here := map[moment]int{}
	for m := range w.Last + 1 {
		next := map[moment]int{}
		enter := func(at moment, changed bool, cost int) {
			cost += p(m, at.open, changed)
			if old, is := next[at]; !forbidden(w, m, at.open) && (!is || cost < old) {
				next[at] = cost
			}
		}
		for at, cost := range here {
			need := needed(w.Hatch, at.open)
			enter(moment{at.open, min(at.age+1, need), at.told}, false, cost)
			if at.age == need {
				enter(moment{!at.open, 1, at.told | eventsAt(w, m, !at.open)}, true, cost)
			}
		}
		if m == 0 {
			enter(moment{true, w.Hatch.Open, 0}, false, 0)
			enter(moment{false, w.Hatch.Shut, 0}, false, 0)
		}
		here = next
	}
	least, found := 0, false
	for at, cost := range here {
		if at.told == allEvents(w) && (!found || cost < least) {
			least, found = cost, true
		}
	}
	return least, found
}

func needed(h api.Hatch, open bool) int {
	if open {
		return h.Open
	}
	return h.Shut
}

// forbidden reports whether some word of the kinds WdOpen and WdShut says that it is not so in a minute.
func forbidden(w api.Watch, minute int, open bool) bool {
	return slices.ContainsFunc(w.Words, func(x api.Word) bool {
		if minute < x.At.Lo || minute > x.At.Hi {
			return false
		}
		return x.Kind == api.WdOpen && !open || x.Kind == api.WdShut && open
	})
}

func eventsAt(w api.Watch, minute int, open bool) int {
	set := 0
	for i, x := range w.Words {
		if x.At.Lo <= minute && minute <= x.At.Hi && (x.Kind == api.WdOpened && open || x.Kind == api.WdClosed && !open) {
			set |= 1 << i
		}
	}
	return set
}

func allEvents(w api.Watch) int {
	set := 0
	for i, x := range w.Words {
		if x.Kind == api.WdOpened || x.Kind == api.WdClosed {
			set |= 1 << i
		}
	}
	return set
}

// free is the price of courses that cost nothing.
func free(int, bool, bool) int { return 0 }

func sameAges(a, b []api.Ages) bool {
	return slices.EqualFunc(a, b, func(x, y api.Ages) bool {
		return slices.Equal(x.Open, y.Open) && slices.Equal(x.Shut, y.Shut)
	})
}

func copyAges(l []api.Ages) []api.Ages {
	l = slices.Clone(l)
	for i, x := range l {
		l[i] = api.Ages{Open: slices.Clone(x.Open), Shut: slices.Clone(x.Shut)}
	}
	return l
}

func sameWatch(v, w api.Watch) bool {
	return v.Hatch == w.Hatch && v.Last == w.Last && slices.Equal(v.Words, w.Words)
}

// mixed returns a watch with its words in another order.
func mixed(r *rand.Rand, w api.Watch) api.Watch {
	w.Words = slices.Clone(w.Words)
	r.Shuffle(len(w.Words), func(i, j int) { w.Words[i], w.Words[j] = w.Words[j], w.Words[i] })
	return w
}

// want fails a test unless an error is as it should be.
func want(t *testing.T, what string, got, wanted api.Errno) {
	t.Helper()
	if got != wanted {
		t.Errorf("%s: error %d, not %d", what, got, wanted)
	}
}
