package leaves

import (
	"iter"
	"slices"

	"drowner/api"
)

// book is the polynomials of a book, one for each place of its leaves.
type book [][]int

// places yields, for each place of leaves of a width, the points that their words are there.
func places(l []api.Leaf, width int) iter.Seq[[]api.Dot] {
	return func(yield func([]api.Dot) bool) {
		for j := range width {
			if !yield(each(len(l), func(n int) api.Dot { return api.Dot{X: l[n].Number, Y: l[n].Words[j]} })) {
				return
			}
		}
	}
}

// bookOf returns the book of a shape for which so many leaves are right that beside Data there are at least twice as many as are wrong; there is at most one, and if there is none it returns any one. There are at least Data leaves.
func bookOf(s api.Shape, l []api.Leaf) book {
	var b book
	for dots := range places(l, s.Width) {
		b = append(b, nearest(dots, s.Data))
	}
	return b
}

// bookWith returns the book that has data of a shape.
func bookWith(s api.Shape, data [][]int) book {
	return bookOf(s, each(s.Data, func(n int) api.Leaf { return api.Leaf{Number: n + 1, Words: data[n]} }))
}

// whole returns all leaves of the book that has data of a shape.
func whole(s api.Shape, data [][]int) []api.Leaf {
	return each(s.Data+s.Checks, bookWith(s, data).leaf)
}

// leaf returns the leaf that has so many ahead of it.
func (b book) leaf(ahead int) api.Leaf {
	return api.Leaf{Number: ahead + 1, Words: each(len(b), func(j int) int { return value(b[j], ahead+1) })}
}

// list returns the words of a leaf.
func (b book) list(ahead int) []int { return b.leaf(ahead).Words }

// wrong returns the numbers of those leaves that are not the book's, in increasing order.
func (b book) wrong(l []api.Leaf) []int {
	var w []int
	for _, x := range l {
		if !slices.Equal(x.Words, b.list(x.Number-1)) {
			w = append(w, x.Number)
		}
	}
	slices.Sort(w)
	return w
}

// spare returns how many of some leaves can be torn if some are wrong, less than 0 if there are too many of these.
func spare(s api.Shape, l []api.Leaf, wrong []int) int {
	return len(l) - s.Data - 2*len(wrong)
}
