package leaves_test

import (
	"slices"
	"testing"

	"drowner/api"
	"drowner/leaves"
)

// question is what a function is asked.
type question struct {
	s      api.Shape
	l      []api.Leaf
	data   [][]int
	m      api.Mended
	copies [][]api.Leaf
	lines  []api.Line
	more   []api.Line
	day    int
	count  int
}

// good returns a question with which no function finds an error.
func good() question {
	s := shape(2, 2, 8)
	lines := []api.Line{line(7, 3, 1, 12), line(4, 1, 0, 70000)}
	data := laid(s, wordsOf(lines)...)
	all := wholeOf(s, data)
	return question{
		s: s, l: []api.Leaf{all[3], all[1], all[0]}, data: data, m: api.Mended{Data: copyRows(data)},
		copies: [][]api.Leaf{copyLeaves(all), {copyLeaves(all)[2]}}, lines: lines, more: []api.Line{line(5, 9, 9, 9), lines[0]}, day: 3, count: 3,
	}
}

// bad returns a question in which all but the shape is wrong, nearly all so that another error than that of a shape comes of it.
func bad(s api.Shape) question {
	return question{
		s: s, l: make([]api.Leaf, 41), copies: make([][]api.Leaf, 6),
		lines: make([]api.Line, 61), more: make([]api.Line, 61), day: -1, count: 6,
	}
}

// call is a function of the chapter; it returns the error, and whether all else is zero.
type call struct {
	name                string
	shape, leaves, data bool // what it has
	lines, more         bool
	do                  func(q question) (api.Errno, bool)
}

func bare(e api.Errno) (api.Errno, bool) { return e, true }

func list[T any](l []T, e api.Errno) (api.Errno, bool) { return e, len(l) == 0 }

func one[T comparable](x T, e api.Errno) (api.Errno, bool) {
	var zero T
	return e, x == zero
}

func calls() []call {
	return []call{
		{name: "Check", shape: true, do: func(q question) (api.Errno, bool) { return bare(leaves.Check(q.s)) }},
		{name: "CheckLeaves", shape: true, leaves: true, do: func(q question) (api.Errno, bool) { return bare(leaves.CheckLeaves(q.s, q.l)) }},
		{name: "Whole", shape: true, data: true, do: func(q question) (api.Errno, bool) { return list(leaves.Whole(q.s, q.data)) }},
		{name: "Mend", shape: true, leaves: true, do: func(q question) (api.Errno, bool) {
			m, e := leaves.Mend(q.s, q.l)
			return e, len(m.Data)+len(m.Wrong) == 0
		}},
		{name: "CheckMend", shape: true, leaves: true, do: func(q question) (api.Errno, bool) { return bare(leaves.CheckMend(q.s, q.l, q.m)) }},
		{name: "Spare", shape: true, leaves: true, do: func(q question) (api.Errno, bool) { return one(leaves.Spare(q.s, q.l)) }},
		{name: "Join", shape: true, do: func(q question) (api.Errno, bool) { return list(leaves.Join(q.s, q.copies)) }},
		{name: "CheckLines", lines: true, do: func(q question) (api.Errno, bool) { return bare(leaves.CheckLines(q.lines)) }},
		{name: "Write", shape: true, lines: true, do: func(q question) (api.Errno, bool) { return list(leaves.Write(q.s, q.lines)) }},
		{name: "Read", shape: true, data: true, do: func(q question) (api.Errno, bool) { return list(leaves.Read(q.s, q.data)) }},
		{name: "Sorted", lines: true, do: func(q question) (api.Errno, bool) { return list(leaves.Sorted(q.lines)) }},
		{name: "Known", lines: true, do: func(q question) (api.Errno, bool) { return list(leaves.Known(q.lines, q.day)) }},
		{name: "Merge", lines: true, more: true, do: func(q question) (api.Errno, bool) { return list(leaves.Merge(q.lines, q.more)) }},
		{name: "Forks", lines: true, more: true, do: func(q question) (api.Errno, bool) { return list(leaves.Forks(q.lines, q.more)) }},
		{name: "Digest", lines: true, do: func(q question) (api.Errno, bool) { return one(leaves.Digest(q.lines)) }},
		{name: "New", shape: true, do: func(q question) (api.Errno, bool) {
			x, e := leaves.New(q.s, q.count)
			return e, x == nil
		}},
		{name: "Store", lines: true, do: func(q question) (api.Errno, bool) {
			x, _ := leaves.New(good().s, 2)
			return bare(x.Store(q.lines))
		}},
	}
}

// wrong fails a test unless a function returns an error, and nothing else.
func wrong(t *testing.T, c call, q question, wanted api.Errno) {
	t.Helper()
	if e, zero := c.do(q); e != wanted || !zero {
		t.Error(c.name, q, e, wanted, zero)
	}
}

func TestNoErrors(t *testing.T) {
	for _, c := range calls() {
		if e, _ := c.do(good()); e != api.OK {
			t.Error(c.name, e)
		}
	}
}

// The error of the shape comes first, whatever else is wrong.
func TestShapesFirst(t *testing.T) {
	for _, c := range calls() {
		for _, s := range badShapes() {
			q := good()
			q.s = s
			if c.shape {
				wrong(t, c, q, api.ErrArg)
				wrong(t, c, bad(s), api.ErrArg)
			} else if e, _ := c.do(q); e != api.OK {
				t.Error(c.name, s, e)
			}
		}
	}
}

// Then those of data, leaves and lines, of all functions that have them, whatever else is wrong.
func TestArgumentsNext(t *testing.T) {
	s := shape(2, 2, 2)
	for _, c := range calls() {
		for _, x := range badLeaves() {
			q := bad(s)
			q.l = x.l
			if c.leaves {
				wrong(t, c, q, x.want)
			}
		}
		for _, x := range badData() {
			q := bad(s)
			q.data = x
			if c.data {
				wrong(t, c, q, api.ErrArg)
			}
		}
		for _, x := range badLists() {
			q := bad(s)
			q.lines = x.l
			if c.lines {
				wrong(t, c, q, x.want)
			}
			for _, y := range badLists() {
				q.more = y.l
				if c.more {
					wrong(t, c, q, x.want)
				}
			}
			// A second list that is wrong comes ahead of forks.
			q.lines, q.more = []api.Line{line(2, 9, 9, 9), line(1, 9, 9, 9), line(7, 9, 9, 9)}, x.l
			if c.more {
				wrong(t, c, q, x.want)
			}
		}
	}
}

// Each function has an error of its own, which comes last.
func TestLastErrors(t *testing.T) {
	for _, x := range []struct {
		name   string
		change func(q *question)
		want   api.Errno
	}{
		{"Mend", func(q *question) { q.l = q.l[:1] }, api.ErrNone},
		{"Mend", func(q *question) { q.l[0].Words[3]++ }, api.ErrClash},
		{"Spare", func(q *question) { q.l = nil }, api.ErrNone},
		{"Spare", func(q *question) { q.l[1].Words[0]++ }, api.ErrClash},
		{"CheckMend", func(q *question) { q.l[2].Words[7]++ }, api.ErrProof},
		{"CheckMend", func(q *question) { q.m.Wrong = []int{1} }, api.ErrProof},
		{"Join", func(q *question) { q.copies = slices.Repeat(q.copies, 3) }, api.ErrLimit},
		{"Join", func(q *question) { q.copies[1][0].Number = 5 }, api.ErrArg},
		{"Write", func(q *question) { q.s.Width = 7 }, api.ErrLimit},
		{"Read", func(q *question) { q.data[0][0] = 3 }, api.ErrForm},
		{"Known", func(q *question) { q.day = 729 }, api.ErrArg},
		{"Merge", func(q *question) { q.more[1].Worth++ }, api.ErrClash},
		{"Merge", func(q *question) { q.lines, q.more = numbered(60), []api.Line{line(99, 0, 0, 0)} }, api.ErrLimit},
		{"New", func(q *question) { q.count = 0 }, api.ErrArg},
		{"Store", func(q *question) { q.lines = numbered(3) }, api.ErrLimit},
	} {
		for _, c := range calls() {
			if c.name == x.name {
				q := good()
				x.change(&q)
				wrong(t, c, q, x.want)
			}
		}
	}
}
