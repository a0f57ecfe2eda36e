package leaves_test

import (
	"cmp"
	"math/rand/v2"
	"slices"
	"testing"

	"drowner/api"
	"drowner/leaves"
)

// P9.7: New.
func TestNew(t *testing.T) {
	for _, s := range badShapes() {
		for _, n := range []int{-1, 0, 1, 5, 6} {
			if x, e := leaves.New(s, n); x != nil || e != api.ErrArg {
				t.Error(s, n, x, e)
			}
		}
	}
	for _, n := range []int{-1 << 63, -1, 0, 6, 1<<63 - 1} {
		if x, e := leaves.New(example(), n); x != nil || e != api.ErrArg {
			t.Error(n, x, e)
		}
	}
	for n := 1; n <= 5; n++ {
		x, e := leaves.New(shape(2, 2, 9), n)
		if x == nil || e != api.OK {
			t.Fatal(n, e)
		}
		for i := -1; i <= n; i++ {
			if l := x.Copy(i); len(l) > 0 {
				t.Error(n, i, l)
			}
			wanted := api.ErrNone
			if i < 0 || i == n {
				wanted = api.ErrArg
			}
			want(t, "Tear", x.Tear(i, 1), wanted)
			want(t, "Blot", x.Blot(i, 1, 0, 0), wanted)
		}
		if l, e := x.Lines(); len(l) > 0 || e != api.ErrNone {
			t.Error(n, l, e)
		}
		// There are as many copies as asked: a leaf that one has is known to no other one.
		want(t, "Store", x.Store(numbered(1)), api.OK)
		for i := range n {
			if l := x.Copy(i); len(l) != 4 {
				t.Error(n, i, l)
			}
		}
		want(t, "Tear of the last", x.Tear(n-1, 4), api.OK)
		for i := range n - 1 {
			want(t, "Tear of another", x.Tear(i, 4), api.OK)
		}
	}
}

// rack is what a shelf should be.
type rack struct {
	s      api.Shape
	x      *leaves.Shelf
	copies [][]api.Leaf
}

func newRack(t *testing.T, s api.Shape, copies int) *rack {
	t.Helper()
	x, e := leaves.New(s, copies)
	if e != api.OK {
		t.Fatal(s, copies, e)
	}
	return &rack{s, x, make([][]api.Leaf, copies)}
}

// has reports whether there is a copy.
func (k *rack) has(n int) bool { return 0 <= n && n < len(k.copies) }

func (k *rack) find(n, number int) int {
	return slices.IndexFunc(k.copies[n], func(x api.Leaf) bool { return x.Number == number })
}

// check fails a test unless all of a shelf is as it should be, however often it is asked.
func (k *rack) check(t *testing.T) {
	t.Helper()
	for n := -1; n <= len(k.copies); n++ {
		var wanted []api.Leaf
		if k.has(n) {
			wanted = k.copies[n]
		}
		for range 2 {
			if l := k.x.Copy(n); !sameLeaves(l, wanted) {
				t.Fatal(k.s, n, l, wanted)
			}
		}
	}
	wanted, e := k.lines(t)
	for range 2 {
		if l, f := k.x.Lines(); !slices.Equal(l, wanted) || f != e {
			t.Fatal(k.s, k.copies, l, f, wanted, e)
		}
	}
}

// lines returns what Lines should return.
func (k *rack) lines(t *testing.T) ([]api.Line, api.Errno) {
	t.Helper()
	l, e := leaves.Join(k.s, k.copies)
	if e != api.OK {
		t.Fatal(k.copies, e)
	}
	m, e := leaves.Mend(k.s, l)
	if e != api.OK {
		return nil, e
	}
	lines, e := leaves.Read(k.s, m.Data)
	return lines, e
}

func (k *rack) store(t *testing.T, l []api.Line) api.Errno {
	t.Helper()
	data, e := leaves.Write(k.s, l)
	want(t, "Store", k.x.Store(l), e)
	if e == api.OK {
		for n := range k.copies {
			k.copies[n] = wholeOf(k.s, data)
		}
	}
	return e
}

func (k *rack) tear(t *testing.T, n, number int) {
	t.Helper()
	wanted := api.OK
	if !k.has(n) {
		wanted = api.ErrArg
	} else if i := k.find(n, number); i < 0 {
		wanted = api.ErrNone
	} else {
		k.copies[n] = slices.Delete(k.copies[n], i, i+1)
	}
	want(t, "Tear", k.x.Tear(n, number), wanted)
}

func (k *rack) blot(t *testing.T, n, number, at, word int) {
	t.Helper()
	wanted := api.OK
	if !k.has(n) || at < 0 || at >= k.s.Width || word < 0 || word >= prime {
		wanted = api.ErrArg
	} else if i := k.find(n, number); i < 0 {
		wanted = api.ErrNone
	} else {
		k.copies[n][i].Words[at] = word
	}
	want(t, "Blot", k.x.Blot(n, number, at, word), wanted)
}

// P9.7: shelves, whatever is done to them.
func TestShelves(t *testing.T) {
	r := chance(17)
	count := map[api.Errno]int{}
	for range 120 {
		s := shape(1+r.IntN(3), r.IntN(5), 8+r.IntN(5))
		k := newRack(t, s, 1+r.IntN(5)*r.IntN(2))
		tears, blots := r.IntN(9), r.IntN(9)
		k.store(t, anyLines(r, 3, 9))
		for range 60 {
			n, number := r.IntN(len(k.copies)+2)-1, r.IntN(s.Data+s.Checks+2)
			switch p := r.IntN(20); {
			case p == 0:
				k.store(t, anyLines(r, 5, 9))
			case p < 1+tears:
				k.tear(t, n, number)
			case p < 1+tears+blots:
				k.blot(t, n, number, r.IntN(s.Width+2)-1, []int{r.IntN(3), anyWord(r), -1, prime}[r.IntN(4)])
			}
			k.check(t)
			_, e := k.lines(t)
			count[e]++
		}
	}
	if count[api.OK] < 300 || count[api.ErrNone] < 200 || count[api.ErrClash] < 100 || count[api.ErrForm] < 20 {
		t.Error("only", count)
	}
}

// P9.7: all errors of a shelf, which change nothing.
func TestShelfErrors(t *testing.T) {
	s := shape(2, 2, 8)
	k := newRack(t, s, 3)
	k.check(t)
	k.store(t, numbered(2))
	k.tear(t, 1, 3)
	k.blot(t, 2, 4, 7, 12345)
	k.check(t)
	low, high := -1<<63, 1<<63-1
	for _, n := range []int{low, -1, 3, 5, high} {
		want(t, "Tear, no copy", k.x.Tear(n, 1), api.ErrArg)
		want(t, "Tear, no copy and no leaf", k.x.Tear(n, 5), api.ErrArg)
		want(t, "Blot, no copy", k.x.Blot(n, 1, 0, 1), api.ErrArg)
		want(t, "Blot, no copy and no leaf", k.x.Blot(n, 0, 0, 1), api.ErrArg)
		if l := k.x.Copy(n); len(l) > 0 {
			t.Error(n, l)
		}
	}
	for _, n := range []int{low, -1, 0, 3, 5, high} {
		want(t, "Tear, no leaf", k.x.Tear(1, n), api.ErrNone)
		want(t, "Blot, no leaf", k.x.Blot(1, n, 0, 1), api.ErrNone)
		want(t, "Blot, no leaf and no place", k.x.Blot(1, n, 8, 1), api.ErrArg)
		want(t, "Blot, no leaf and no word", k.x.Blot(1, n, 0, prime), api.ErrArg)
	}
	for _, n := range []int{low, -1, 8, 9, 32, high} {
		want(t, "Blot, no place", k.x.Blot(0, 1, n, 1), api.ErrArg)
	}
	for _, n := range noWords() {
		want(t, "Blot, no word", k.x.Blot(0, 1, 1, n), api.ErrArg)
	}
	for _, x := range badLists() {
		want(t, x.name, k.x.Store(x.l), x.want)
	}
	want(t, "too many lines", k.x.Store(numbered(3)), api.ErrLimit)
	k.check(t)
	if l, e := k.x.Lines(); !slices.Equal(l, numbered(2)) || e != api.OK {
		t.Error(l, e)
	}
	k.store(t, numbered(1)) // which brings the torn leaf back, and wipes the blot off
	k.check(t)
	k.store(t, nil)
	k.check(t)
	if l, e := k.x.Lines(); len(l) > 0 || e != api.OK {
		t.Error(l, e)
	}
}

// P9.7: blots that make other lines, or none, of a book without check leaves.
func TestBlots(t *testing.T) {
	k := newRack(t, shape(1, 0, 8), 1)
	k.store(t, []api.Line{line(9, 8, 7, 6)})
	k.blot(t, 0, 1, 3, 5)
	if l, e := k.x.Lines(); !slices.Equal(l, []api.Line{line(5, 8, 7, 6)}) || e != api.OK {
		t.Error(l, e)
	}
	k.blot(t, 0, 1, 0, 2)
	if l, e := k.x.Lines(); len(l) > 0 || e != api.ErrForm {
		t.Error(l, e)
	}
	k.blot(t, 0, 1, 0, 1)
	k.blot(t, 0, 1, 5, 1000)
	k.blot(t, 0, 1, 5, 1000)
	if l, e := k.x.Lines(); !slices.Equal(l, []api.Line{line(5, 8, 1000, 6)}) || e != api.OK {
		t.Error(l, e)
	}
	k.check(t)
}

// harm tears and blots leaves, so that Join has at least Data leaves, and beside these at least twice as many as are wrong in it.
func harm(t *testing.T, r *rand.Rand, k *rack) (torn, wrong int) {
	t.Helper()
	torn = r.IntN(k.s.Checks + 1)
	wrong = r.IntN((k.s.Checks-torn)/2 + 1)
	for i, n := range r.Perm(k.s.Data + k.s.Checks) {
		number := n + 1
		for j, c := range r.Perm(len(k.copies)) {
			switch {
			case i < torn:
				k.tear(t, c, number)
			case i < torn+wrong && j <= len(k.copies)/2: // most of the copies have another leaf, and all of these the same
				k.blot(t, c, number, n%k.s.Width, word(k.copies[c][n-above(k, c, number)].Words[n%k.s.Width]+1))
			case i >= torn+wrong && j < (len(k.copies)-1)/2: // fewer copies have none, or another one
				if r.IntN(2) == 0 {
					k.tear(t, c, number)
				} else {
					k.blot(t, c, number, r.IntN(k.s.Width), r.IntN(prime))
				}
			}
		}
	}
	return torn, wrong
}

// above returns how many leaves ahead of a number a copy does not have.
func above(k *rack, c, number int) int { return number - 1 - k.find(c, number) }

// P9.13: if Join of the copies has at least Data leaves, and beside these at least twice as many as are wrong in it, Lines returns what was stored last.
func TestStoredLast(t *testing.T) {
	r := chance(18)
	harmed := 0
	for i := range 150 {
		s := shape(1+r.IntN(20), r.IntN(21), 8+r.IntN(25))
		if i%2 == 0 {
			s.Checks = 20
		}
		k := newRack(t, s, 1+r.IntN(5))
		var stored []api.Line
		for range 3 {
			l := anyLines(r, min(60, (s.Data*s.Width-1)/7), api.MaxID)
			if e := k.store(t, l); e != api.OK {
				t.Fatal(s, l, e)
			}
			stored = l
			torn, wrong := harm(t, r, k)
			if got, e := k.x.Lines(); !slices.Equal(got, stored) || e != api.OK {
				t.Fatal(s, torn, wrong, got, stored, e)
			}
			harmed += torn + wrong
		}
		k.check(t)
	}
	if harmed < 1000 {
		t.Error("only", harmed)
	}
}

// T9: whichever few leaves of each copy are torn or blotted, all copies tell the same, as known on each day.
func TestAllTellTheSame(t *testing.T) {
	r := chance(19)
	s := shape(3, 4, 8)
	l := []api.Line{line(3, 9, 1, 5), line(8, 2, 0, api.MaxWorth), line(1, 400, 1000, 0)}
	data, _ := leaves.Write(s, l)
	all := wholeOf(s, data)
	for _, left := range choices(all, s.Data+2) {
		bad, _ := spoiled(r, left, 1)
		m, e := leaves.Mend(s, mixed(r, bad))
		if e != api.OK {
			t.Fatal(bad, e)
		}
		got, e := leaves.Read(s, m.Data)
		if e != api.OK {
			t.Fatal(m, e)
		}
		for day := range api.MaxDay + 1 {
			a, e := leaves.Known(l, day)
			b, f := leaves.Known(got, day)
			if cmp.Or(e, f) != api.OK || !slices.Equal(a, b) {
				t.Fatal(day, a, b, e, f)
			}
		}
	}
}

// Shelves know nothing of each other, nor copies of a shelf.
func TestTwoShelves(t *testing.T) {
	s := shape(2, 1, 8)
	a, b := newRack(t, s, 2), newRack(t, s, 2)
	a.store(t, numbered(1))
	b.check(t)
	b.store(t, numbered(2))
	a.blot(t, 0, 1, 2, 77)
	a.tear(t, 1, 2)
	b.tear(t, 0, 3)
	a.check(t)
	b.check(t)
}
