package leaves_test

import (
	"slices"
	"testing"

	"drowner/api"
	"drowner/leaves"
)

// numbered returns so many lines, with the IDs from 1 on.
func numbered(count int) []api.Line {
	var l []api.Line
	for i := range count {
		l = append(l, line(i+1, i%5, i, i))
	}
	return l
}

type badList struct {
	name string
	l    []api.Line
	want api.Errno
}

// badLists returns lists of lines that are not right, with the error of each.
func badLists() []badList {
	one, two := line(1, 2, 3, 4), line(2, 2, 3, 4)
	l := []badList{
		{"61 lines", numbered(61), api.ErrLimit},
		{"61 lines, all the same", slices.Repeat([]api.Line{one}, 61), api.ErrLimit},
		{"61 lines, all wrong", make([]api.Line, 61), api.ErrLimit},
		{"60 lines, and the last one twice", append(numbered(59), line(59, 1, 1, 1)), api.ErrTwice},
		{"the same line twice", []api.Line{one, two, one}, api.ErrTwice},
		{"an ID twice", []api.Line{two, line(2, 0, 0, 0)}, api.ErrTwice},
		{"an ID twice, then a wrong line", []api.Line{one, one, line(0, 1, 1, 1)}, api.ErrTwice},
		{"a wrong line, then an ID twice", []api.Line{one, line(2, 729, 1, 1), one}, api.ErrArg},
		{"an ID twice, in a wrong line", []api.Line{one, line(1, 2, 1001, 4)}, api.ErrArg},
		{"a wrong line, then the same ID", []api.Line{line(1, -1, 1, 1), one}, api.ErrArg},
	}
	for _, x := range []api.Line{
		{}, line(0, 1, 1, 1), line(-1, 1, 1, 1), line(api.MaxID+1, 1, 1, 1), line(-1<<63, 1, 1, 1), line(1<<63-1, 1, 1, 1),
		line(7, -1, 1, 1), line(7, 729, 1, 1), line(7, -1<<63, 1, 1), line(7, 1<<63-1, 1, 1),
		line(7, 1, -1, 1), line(7, 1, 1001, 1), line(7, 1, -1<<63, 1), line(7, 1, 1<<63-1, 1),
		line(7, 1, 1, -1), line(7, 1, 1, 1<<31), line(7, 1, 1, -1<<63), line(7, 1, 1, 1<<63-1),
	} {
		l = append(l, badList{"a wrong line", []api.Line{x}, api.ErrArg}, badList{"a wrong line behind others", []api.Line{one, two, x}, api.ErrArg})
	}
	return l
}

// P9.5: CheckLines.
func TestCheckLines(t *testing.T) {
	for _, x := range badLists() {
		want(t, x.name, leaves.CheckLines(x.l), x.want)
	}
	for _, l := range [][]api.Line{nil, {}, numbered(60), {line(1, 0, 0, 0)}, {line(api.MaxID, 728, 1000, 1<<31-1), line(1, 728, 1000, 1<<31-1)}} {
		want(t, "lines", leaves.CheckLines(l), api.OK)
	}
}

// P9.5: the chapter's example, and the greatest numbers; as many words as there is room for, and one more.
func TestWriteExamples(t *testing.T) {
	most := line(api.MaxID, 728, 1000, 1<<31-1)
	for _, x := range []struct {
		s    api.Shape
		l    []api.Line
		data [][]int
		want api.Errno
	}{
		{shape(2, 0, 4), []api.Line{line(65522, 3, 1, 70000)}, [][]int{{1, 0, 1, 1}, {3, 1, 1, 4479}}, api.OK},
		{shape(1, 0, 1), nil, rows(0), api.OK},
		{shape(3, 1, 2), nil, [][]int{{0, 0}, {0, 0}, {0, 0}}, api.OK},
		{shape(1, 0, 8), []api.Line{most}, [][]int{{1, 256, 7680, 57600, 728, 1000, 32775, 32872}}, api.OK},
		{shape(1, 0, 8), []api.Line{line(65520, 0, 0, 65520)}, [][]int{{1, 0, 0, 65520, 0, 0, 0, 65520}}, api.OK},
		{shape(1, 0, 8), []api.Line{line(65521, 0, 0, 65521)}, [][]int{{1, 0, 1, 0, 0, 0, 1, 0}}, api.OK},
		{shape(1, 0, 8), []api.Line{line(65521*65521, 0, 0, 0)}, [][]int{{1, 1, 0, 0, 0, 0, 0, 0}}, api.OK},
		{shape(1, 0, 7), []api.Line{line(1, 0, 0, 0)}, nil, api.ErrLimit},
		{shape(1, 20, 7), []api.Line{line(1, 0, 0, 0)}, nil, api.ErrLimit}, // check leaves have no room
		{shape(5, 0, 3), []api.Line{line(9, 8, 7, 6), line(5, 4, 3, 2)}, [][]int{{2, 0, 0}, {9, 8, 7}, {0, 6, 0}, {0, 5, 4}, {3, 0, 2}}, api.OK},
		{shape(7, 0, 2), []api.Line{line(9, 8, 7, 6), line(5, 4, 3, 2)}, nil, api.ErrLimit},
		{shape(4, 0, 4), []api.Line{line(9, 8, 7, 6), line(5, 4, 3, 2)}, [][]int{{2, 0, 0, 9}, {8, 7, 0, 6}, {0, 0, 5, 4}, {3, 0, 2, 0}}, api.OK},
	} {
		if data, e := leaves.Write(x.s, x.l); !sameRows(data, x.data) || e != x.want {
			t.Error(x, data, e)
		}
	}
}

// P9.5, P9.12: Write is as defined, and Read of it are the lines, in their order.
func TestWriteAndRead(t *testing.T) {
	r := chance(12)
	limits, reads := 0, 0
	for i := range 1500 {
		s, l := anyShape(r, 20, 20, 32), anyLines(r, r.IntN(61), api.MaxID)
		if i < 5 {
			s, l = greatest(), numbered(60)
		}
		words := wordsOf(l)
		data, e := leaves.Write(s, l)
		if len(words) > s.Data*s.Width {
			limits++
			if len(data) > 0 || e != api.ErrLimit {
				t.Fatal(s, l, data, e)
			}
			continue
		}
		if !sameRows(data, laid(s, words...)) || e != api.OK {
			t.Fatal(s, l, data, e)
		}
		if got, e := leaves.Read(s, data); !slices.Equal(got, l) || e != api.OK {
			t.Fatal(s, data, got, l, e)
		}
		reads++
	}
	if limits < 200 || reads < 500 {
		t.Error("only", limits, reads)
	}
}

// P9.5: data that come from no lines.
func TestReadErrors(t *testing.T) {
	s := shape(4, 3, 5)
	one := []int{0, 0, 9, 8, 7, 0, 6}
	of := func(l ...[]int) []int { return slices.Concat(l...) }
	for i, x := range []struct {
		words []int
		l     []api.Line
		want  api.Errno
	}{
		{nil, nil, api.OK},
		{of([]int{1}, one), []api.Line{line(9, 8, 7, 6)}, api.OK},
		{of([]int{2}, one, []int{1, 2, 3, 728, 1000, 32775, 32872}), []api.Line{line(9, 8, 7, 6), line(65521*65521+2*65521+3, 728, 1000, 1<<31-1)}, api.OK},
		{of([]int{0}, one), nil, api.ErrForm},
		{[]int{0, 1}, nil, api.ErrForm},
		{append(make([]int, 19), 1), nil, api.ErrForm},
		{of([]int{1}, one, []int{1}), nil, api.ErrForm},
		{append(of([]int{1}, one, make([]int, 11)), 1), nil, api.ErrForm},
		{of([]int{2}, one), nil, api.ErrForm},
		{of([]int{2}, one, one), nil, api.ErrForm},
		{of([]int{3}, one, []int{0, 0, 1, 0, 0, 0, 0}), nil, api.ErrForm},
		{of([]int{3}, one, []int{0, 0, 1, 0, 0, 0, 0}, []int{0, 0, 2, 0, 0}), nil, api.ErrForm},
		{[]int{prime - 1}, nil, api.ErrForm},
		{of([]int{61}, one), nil, api.ErrForm},
		{[]int{1}, nil, api.ErrForm},                              // the ID 0
		{[]int{1, 256, 7680, 57601}, nil, api.ErrForm},            // greater than MaxID
		{[]int{1, 256, 7681, 0}, nil, api.ErrForm},                // greater than MaxID
		{[]int{1, prime - 1, 0, 1}, nil, api.ErrForm},             // greater than MaxID
		{[]int{1, 0, 0, 1, 729}, nil, api.ErrForm},                // greater than MaxDay
		{[]int{1, 0, 0, 1, prime - 1}, nil, api.ErrForm},          // greater than MaxDay
		{[]int{1, 0, 0, 1, 0, 1001}, nil, api.ErrForm},            // greater than MaxWhat
		{[]int{1, 0, 0, 1, 0, 0, 32775, 32873}, nil, api.ErrForm}, // greater than MaxWorth
		{[]int{1, 0, 0, 1, 0, 0, prime - 1, prime - 1}, nil, api.ErrForm},
		{[]int{1, 256, 7680, 57600, 728, 1000, 32775, 32872}, []api.Line{line(api.MaxID, 728, 1000, 1<<31-1)}, api.OK},
	} {
		if l, e := leaves.Read(s, laid(s, x.words...)); !slices.Equal(l, x.l) || e != x.want {
			t.Error(i, x, l, e)
		}
	}
	many := numbered(61)
	if l, e := leaves.Read(greatest(), laid(greatest(), wordsOf(many)...)); len(l) > 0 || e != api.ErrForm {
		t.Error("61 lines", l, e)
	}
	if l, e := leaves.Read(greatest(), laid(greatest(), wordsOf(many[:60])...)); !slices.Equal(l, many[:60]) || e != api.OK {
		t.Error("60 lines", l, e)
	}
	for _, n := range []int{0, 1, 2, 61, prime - 1} {
		wanted := api.ErrForm
		if n == 0 {
			wanted = api.OK
		}
		if l, e := leaves.Read(shape(1, 0, 1), rows(n)); len(l) > 0 || e != wanted {
			t.Error(n, l, e)
		}
	}
}

// P9.5: whatever stands in data, Read finds lines of which Write makes it, or there are none.
func TestReadAnything(t *testing.T) {
	r := chance(13)
	found := 0
	for range 3000 {
		s := anyShape(r, 6, 0, 6)
		words := wordsOf(anyLines(r, 3, 9))
		if r.IntN(2) == 0 {
			words[r.IntN(len(words))] = anyWord(r)
		}
		data := laid(s, words...)
		l, e := leaves.Read(s, data)
		if e != api.OK {
			if len(l) > 0 || e != api.ErrForm {
				t.Fatal(s, data, l, e)
			}
			if isWritten(data) {
				t.Fatal(s, data)
			}
			continue
		}
		found++
		if again, f := leaves.Write(s, l); !sameRows(again, data) || f != api.OK {
			t.Fatal(s, data, l, again, f)
		}
	}
	if found < 500 || found > 2500 {
		t.Error("only", found)
	}
}

// isWritten reports whether data come from lines, word by word.
func isWritten(data [][]int) bool {
	words := slices.Concat(data...)
	end := 1 + api.LineWords*words[0]
	if words[0] > api.MaxLines || end > len(words) || slices.ContainsFunc(words[end:], func(n int) bool { return n != 0 }) {
		return false
	}
	ids := map[int]bool{}
	for at := 1; at < end; at += api.LineWords {
		id := (words[at]*prime+words[at+1])*prime + words[at+2]
		worth := words[at+5]*prime + words[at+6]
		if id < 1 || id > api.MaxID || ids[id] || words[at+3] > api.MaxDay || words[at+4] > api.MaxWhat || worth > api.MaxWorth {
			return false
		}
		ids[id] = true
	}
	return true
}

// P9.6: Sorted and Known; P9.12: Known on a later day has all that was known on an earlier one.
func TestSortedAndKnown(t *testing.T) {
	r := chance(14)
	for i := range 500 {
		l := anyLines(r, 60, []int{99, api.MaxID}[i%2])
		if i == 0 {
			l = nil
		}
		wanted := sortedOf(l)
		if got, e := leaves.Sorted(l); !slices.Equal(got, wanted) || e != api.OK {
			t.Fatal(l, got, e)
		}
		var before []api.Line
		for _, day := range []int{0, 1, 2, 3, r.IntN(729), 727, 728} {
			known := slices.DeleteFunc(slices.Clone(wanted), func(x api.Line) bool { return x.Day > day })
			got, e := leaves.Known(l, day)
			if !slices.Equal(got, known) || e != api.OK {
				t.Fatal(l, day, got, e)
			}
			for _, x := range before {
				if x.Day <= day && !slices.Contains(got, x) {
					t.Fatal(l, day, x, got)
				}
			}
			before = got
		}
	}
	few := []api.Line{line(3, 5, 1, 1), line(2, 5, 9, 9), line(9, 0, 1, 1), line(1, 728, 1, 1)}
	if l, e := leaves.Known(few, 5); !slices.Equal(l, []api.Line{few[2], few[1], few[0]}) || e != api.OK {
		t.Error(l, e)
	}
	if l, e := leaves.Known(few, 4); !slices.Equal(l, few[2:3]) || e != api.OK {
		t.Error(l, e)
	}
}

// P9.6: the days of Known.
func TestKnownDays(t *testing.T) {
	for _, day := range []int{-1 << 63, -1, 729, 1<<63 - 1} {
		for _, l := range [][]api.Line{nil, numbered(3)} {
			if got, e := leaves.Known(l, day); len(got) > 0 || e != api.ErrArg {
				t.Error(l, day, got, e)
			}
		}
		if got, e := leaves.Known(slices.Repeat(numbered(1), 2), day); len(got) > 0 || e != api.ErrTwice {
			t.Error(day, got, e)
		}
	}
	for _, day := range []int{0, 728} {
		if got, e := leaves.Known(numbered(1), day); !slices.Equal(got, numbered(1)) || e != api.OK {
			t.Error(day, got, e)
		}
	}
}

// P9.6: Forks and Merge, in examples.
func TestMergeExamples(t *testing.T) {
	a, b := line(65522, 3, 1, 70000), line(2, 5, 0, 0)
	changed := func(do func(x *api.Line)) []api.Line {
		x := a
		do(&x)
		return []api.Line{b, x}
	}
	sixty := numbered(60)
	for i, x := range []struct {
		a, b  []api.Line
		forks []int
		l     []api.Line
		want  api.Errno
	}{
		{nil, nil, nil, nil, api.OK},
		{[]api.Line{b, a}, nil, nil, []api.Line{a, b}, api.OK},
		{nil, []api.Line{b, a}, nil, []api.Line{a, b}, api.OK},
		{[]api.Line{b}, []api.Line{a}, nil, []api.Line{a, b}, api.OK},
		{[]api.Line{b, a}, []api.Line{a, b}, nil, []api.Line{a, b}, api.OK},
		{[]api.Line{a}, changed(func(x *api.Line) { x.Day = 4 }), []int{65522}, nil, api.ErrClash},
		{[]api.Line{a}, changed(func(x *api.Line) { x.What = 2 }), []int{65522}, nil, api.ErrClash},
		{[]api.Line{a}, changed(func(x *api.Line) { x.Worth = 0 }), []int{65522}, nil, api.ErrClash},
		{[]api.Line{a}, changed(func(x *api.Line) { x.ID = 1 }), nil, []api.Line{line(1, 3, 1, 70000), a, b}, api.OK},
		{sixty, sixty, nil, sortedOf(sixty), api.OK},
		{sixty, sixty[59:], nil, sortedOf(sixty), api.OK},
		{sixty[:59], sixty[59:], nil, sortedOf(sixty), api.OK},
		{sixty, []api.Line{line(61, 0, 0, 0)}, nil, nil, api.ErrLimit},
		{[]api.Line{line(61, 0, 0, 0)}, sixty, nil, nil, api.ErrLimit},
		{sixty, []api.Line{line(61, 0, 0, 0), line(60, 0, 0, 0)}, []int{60}, nil, api.ErrClash},
		{[]api.Line{line(9, 1, 0, 0), line(3, 1, 0, 0), line(5, 1, 0, 0)}, []api.Line{line(5, 1, 0, 0), line(3, 2, 0, 0), line(9, 2, 0, 0)}, []int{3, 9}, nil, api.ErrClash},
	} {
		if ids, e := leaves.Forks(x.a, x.b); !slices.Equal(ids, x.forks) || e != api.OK {
			t.Error(i, x, ids, e)
		}
		if l, e := leaves.Merge(x.a, x.b); !slices.Equal(l, x.l) || e != x.want {
			t.Error(i, x, l, e)
		}
	}
}

// P9.6, against the definitions; P9.12: Merge does not depend on the order of both, has all lines of each one, and merged once more it stays.
func TestMerge(t *testing.T) {
	r := chance(15)
	count := map[api.Errno]int{}
	for i := range 1500 {
		a := anyLines(r, 50, []int{20, 500, api.MaxID}[i%3])
		b := anyLines(r, 50, []int{20, 500, api.MaxID}[i%3])
		for k, x := range b { // most of those that stand in both are the same
			if j := slices.IndexFunc(a, func(y api.Line) bool { return x.ID == y.ID }); j >= 0 && (i%2 == 0 || r.IntN(9) > 0) {
				b[k] = a[j]
			}
		}
		var forks []int
		var all []api.Line
		for _, x := range slices.Concat(a, b) {
			if !slices.Contains(all, x) {
				all = append(all, x)
			}
		}
		for _, x := range a {
			for _, y := range b {
				if x.ID == y.ID && x != y {
					forks = append(forks, x.ID)
				}
			}
		}
		slices.Sort(forks)
		wanted := api.OK
		if len(forks) > 0 {
			wanted, all = api.ErrClash, nil
		} else if len(all) > 60 {
			wanted, all = api.ErrLimit, nil
		}
		count[wanted]++
		all = sortedOf(all)
		for range 2 {
			if ids, e := leaves.Forks(a, b); !slices.Equal(ids, forks) || e != api.OK {
				t.Fatal(a, b, ids, e)
			}
			l, e := leaves.Merge(a, b)
			if !slices.Equal(l, all) || e != wanted {
				t.Fatal(a, b, l, e, wanted)
			}
			if e == api.OK {
				again, f := leaves.Merge(l, b)
				if !slices.Equal(again, l) || f != api.OK {
					t.Fatal(a, b, l, again, f)
				}
			}
			a, b = mixed(r, b), mixed(r, a)
		}
	}
	if count[api.OK] < 300 || count[api.ErrClash] < 100 || count[api.ErrLimit] < 100 {
		t.Error("only", count)
	}
}

// P9.6, P9.12: Digest does not depend on the order of lines; lists that differ in What of one line alone have different ones.
func TestDigest(t *testing.T) {
	r := chance(16)
	for range 300 {
		l := anyLines(r, 60, api.MaxID)
		n, e := leaves.Digest(l)
		if n != valueOf(wordsOf(sortedOf(l)), 7) || e != api.OK {
			t.Fatal(l, n, e)
		}
		if m, e := leaves.Digest(mixed(r, l)); m != n || e != api.OK {
			t.Fatal(l, n, m, e)
		}
		if len(l) == 0 {
			continue
		}
		other := slices.Clone(l)
		i := r.IntN(len(l))
		other[i].What = (l[i].What + 1 + r.IntN(api.MaxWhat)) % (api.MaxWhat + 1)
		if m, e := leaves.Digest(other); m == n || e != api.OK {
			t.Fatal(l, other, n, m, e)
		}
	}
	for _, x := range []struct {
		l []api.Line
		n int
	}{
		{nil, 0}, {[]api.Line{}, 0}, {[]api.Line{line(1, 0, 0, 0)}, 344}, {[]api.Line{line(1, 0, 1, 0)}, 344 + 16807},
		{[]api.Line{line(2, 0, 0, 0), line(1, 1, 0, 0)}, digestOf(2, 0, 1, 1)},
		{[]api.Line{line(1, 1, 0, 0), line(2, 0, 0, 0)}, digestOf(2, 0, 1, 1)},
	} {
		if n, e := leaves.Digest(x.l); n != x.n || e != api.OK {
			t.Error(x, n, e)
		}
	}
}

// digestOf is that of two lines with two IDs and two days.
func digestOf(id, day, id2, day2 int) int {
	return valueOf([]int{2, 0, 0, id, day, 0, 0, 0, 0, 0, id2, day2}, 7)
}
