package leaves

import (
	"cmp"
	"slices"

	"drowner/api"
)

// CheckLines returns the first error of lines.
func CheckLines(l []api.Line) api.Errno {
	if len(l) > api.MaxLines {
		return api.ErrLimit
	}
	seen := map[int]bool{}
	for _, x := range l {
		if !isLine(x) {
			return api.ErrArg
		}
		if seen[x.ID] {
			return api.ErrTwice
		}
		seen[x.ID] = true
	}
	return api.OK
}

func isLine(x api.Line) bool {
	return isFrom(1, api.MaxID, x.ID) && isFrom(0, api.MaxDay, x.Day) && isFrom(0, api.MaxWhat, x.What) && isFrom(0, api.MaxWorth, x.Worth)
}

// record is the words of a line.
type record [api.LineWords]int

func recordOf(x api.Line) record {
	const p = api.Prime
	return record{x.ID / p / p, x.ID / p % p, x.ID % p, x.Day, x.What, x.Worth / p, x.Worth % p}
}

func (w record) line() api.Line {
	const p = api.Prime
	return api.Line{ID: (w[0]*p+w[1])*p + w[2], Day: w[3], What: w[4], Worth: w[5]*p + w[6]}
}

// wordsOf returns the words of lines.
func wordsOf(l []api.Line) []int {
	words := []int{len(l)}
	for _, x := range l {
		w := recordOf(x)
		words = append(words, w[:]...)
	}
	return words
}

// linesOf returns the lines that words tell, as far as there are words for them.
func linesOf(words []int) []api.Line {
	var l []api.Line
	for at := 1; len(l) < words[0] && at+api.LineWords <= len(words); at += api.LineWords {
		var w record
		copy(w[:], words[at:])
		l = append(l, w.line())
	}
	return l
}

// Write returns lines as the data of a book.
func Write(s api.Shape, l []api.Line) ([][]int, api.Errno) {
	if e := cmp.Or(Check(s), CheckLines(l)); e != api.OK {
		return nil, e
	}
	words := wordsOf(l)
	room := s.Data * s.Width
	if len(words) > room {
		return nil, api.ErrLimit
	}
	words = append(words, make([]int, room-len(words))...)
	return each(s.Data, func(n int) []int { return slices.Clone(words[n*s.Width : (n+1)*s.Width]) }), api.OK
}

// Read returns the lines of the data of a book.
func Read(s api.Shape, data [][]int) ([]api.Line, api.Errno) {
	if e := checkData(s, data); e != api.OK {
		return nil, e
	}
	words := slices.Concat(data...)
	l := linesOf(words)
	again, e := Write(s, l)
	if e != api.OK || !slices.Equal(slices.Concat(again...), words) {
		return nil, api.ErrForm
	}
	return l, api.OK
}

// sorted returns lines by Day, and then by ID.
func sorted(l []api.Line) []api.Line {
	return slices.SortedFunc(slices.Values(l), func(a, b api.Line) int {
		return cmp.Or(cmp.Compare(a.Day, b.Day), cmp.Compare(a.ID, b.ID))
	})
}

// Sorted returns lines by day.
func Sorted(l []api.Line) ([]api.Line, api.Errno) {
	if e := CheckLines(l); e != api.OK {
		return nil, e
	}
	return sorted(l), api.OK
}

// Known returns the lines up to a day.
func Known(l []api.Line, day int) ([]api.Line, api.Errno) {
	if e := CheckLines(l); e != api.OK {
		return nil, e
	}
	if !isFrom(0, api.MaxDay, day) {
		return nil, api.ErrArg
	}
	return slices.DeleteFunc(sorted(l), func(x api.Line) bool { return x.Day > day }), api.OK
}

// Merge returns the lines of two lists.
func Merge(a, b []api.Line) ([]api.Line, api.Errno) {
	forks, e := Forks(a, b)
	if e != api.OK {
		return nil, e
	}
	if len(forks) > 0 {
		return nil, api.ErrClash
	}
	further := slices.DeleteFunc(slices.Clone(b), func(x api.Line) bool { return slices.Contains(a, x) })
	if len(a)+len(further) > api.MaxLines {
		return nil, api.ErrLimit
	}
	return sorted(slices.Concat(a, further)), api.OK
}

// Forks returns the IDs of lines that say something else in two lists.
func Forks(a, b []api.Line) ([]int, api.Errno) {
	if e := cmp.Or(CheckLines(a), CheckLines(b)); e != api.OK {
		return nil, e
	}
	there := map[int]api.Line{}
	for _, x := range b {
		there[x.ID] = x
	}
	var ids []int
	for _, x := range a {
		if y, is := there[x.ID]; is && x != y {
			ids = append(ids, x.ID)
		}
	}
	slices.Sort(ids)
	return ids, api.OK
}

// Digest returns a number for lines.
func Digest(l []api.Line) (int, api.Errno) {
	if e := CheckLines(l); e != api.OK {
		return 0, e
	}
	return value(wordsOf(sorted(l)), 7), api.OK
}
