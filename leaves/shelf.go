package leaves

import (
	"slices"

	"drowner/api"
)

// Shelf is copies of a book.
type Shelf struct {
	shape  api.Shape
	copies [][]api.Leaf // by number
}

// New returns a shelf with empty copies.
func New(s api.Shape, copies int) (*Shelf, api.Errno) {
	if e := Check(s); e != api.OK {
		return nil, e
	}
	if !isFrom(1, api.MaxCopies, copies) {
		return nil, api.ErrArg
	}
	return &Shelf{shape: s, copies: make([][]api.Leaf, copies)}, api.OK
}

// Store writes lines into all copies.
func (x *Shelf) Store(l []api.Line) api.Errno {
	data, e := Write(x.shape, l)
	if e != api.OK {
		return e
	}
	all := whole(x.shape, data)
	x.copies = each(len(x.copies), func(int) []api.Leaf { return copyOf(all) })
	return api.OK
}

// copyOf returns leaves in new memory.
func copyOf(l []api.Leaf) []api.Leaf {
	return each(len(l), func(n int) api.Leaf { return api.Leaf{Number: l[n].Number, Words: slices.Clone(l[n].Words)} })
}

func (x *Shelf) hasCopy(n int) bool { return isFrom(0, len(x.copies)-1, n) }

// find returns where the leaf with a number is in a copy, less than 0 if it is not there.
func (x *Shelf) find(copy, number int) int {
	return slices.IndexFunc(x.copies[copy], func(l api.Leaf) bool { return l.Number == number })
}

// Tear takes a leaf out of a copy.
func (x *Shelf) Tear(copy, number int) api.Errno {
	if !x.hasCopy(copy) {
		return api.ErrArg
	}
	i := x.find(copy, number)
	if i < 0 {
		return api.ErrNone
	}
	x.copies[copy] = slices.Delete(x.copies[copy], i, i+1)
	return api.OK
}

// Blot changes a word of a leaf of a copy.
func (x *Shelf) Blot(copy, number, at, word int) api.Errno {
	if !x.hasCopy(copy) || !isFrom(0, x.shape.Width-1, at) || !isWord(word) {
		return api.ErrArg
	}
	i := x.find(copy, number)
	if i < 0 {
		return api.ErrNone
	}
	x.copies[copy][i].Words[at] = word
	return api.OK
}

// Copy returns the leaves of a copy.
func (x *Shelf) Copy(n int) []api.Leaf {
	if !x.hasCopy(n) {
		return nil
	}
	return copyOf(x.copies[n])
}

// Lines returns the lines that can be read from all copies together.
func (x *Shelf) Lines() ([]api.Line, api.Errno) {
	m, e := Mend(x.shape, join(x.shape, each(len(x.copies), x.Copy)))
	if e != api.OK {
		return nil, e
	}
	return Read(x.shape, m.Data)
}
