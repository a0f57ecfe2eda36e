package leaves

import (
	"slices"

	"drowner/api"
)

// Mend returns the data of a book, and which leaves are wrong.
func Mend(s api.Shape, l []api.Leaf) (api.Mended, api.Errno) {
	if e := CheckLeaves(s, l); e != api.OK {
		return api.Mended{}, e
	}
	if len(l) < s.Data {
		return api.Mended{}, api.ErrNone
	}
	b := bookOf(s, l)
	wrong := b.wrong(l)
	if spare(s, l, wrong) < 0 {
		return api.Mended{}, api.ErrClash
	}
	return api.Mended{Data: each(s.Data, b.list), Wrong: wrong}, api.OK
}

// CheckMend returns OK if data are those of a book, and just some leaves are wrong.
func CheckMend(s api.Shape, l []api.Leaf, m api.Mended) api.Errno {
	if e := CheckLeaves(s, l); e != api.OK {
		return e
	}
	if checkData(s, m.Data) != api.OK {
		return api.ErrProof
	}
	wrong := bookWith(s, m.Data).wrong(l)
	if !slices.Equal(wrong, m.Wrong) || spare(s, l, wrong) < 0 {
		return api.ErrProof
	}
	return api.OK
}

// Spare returns how many further leaves can be torn.
func Spare(s api.Shape, l []api.Leaf) (int, api.Errno) {
	m, e := Mend(s, l)
	if e != api.OK {
		return 0, e
	}
	return spare(s, l, m.Wrong), api.OK
}
