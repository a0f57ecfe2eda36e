package leaves

import (
	"slices"

	"drowner/api"
)

// content is the words of a leaf, and zeros behind them.
type content [api.MaxWidth]int

// variants returns what the leaf with a number is in copies, with how many copies have it so.
func variants(copies [][]api.Leaf, number int) map[content]int {
	v := map[content]int{}
	for _, x := range slices.Concat(copies...) {
		if x.Number == number {
			var c content
			copy(c[:], x.Words)
			v[c]++
		}
	}
	return v
}

// commonest returns the variant that more copies have than any other one, and whether there is one.
func commonest(v map[content]int) (content, bool) {
	var best content
	most, alone := 0, false
	for c, n := range v {
		if n > most {
			best, most, alone = c, n, true
		} else if n == most {
			alone = false
		}
	}
	if !alone {
		return content{}, false
	}
	return best, true
}

// Join returns the leaves that most copies have.
func Join(s api.Shape, copies [][]api.Leaf) ([]api.Leaf, api.Errno) {
	if e := Check(s); e != api.OK {
		return nil, e
	}
	if len(copies) > api.MaxCopies {
		return nil, api.ErrLimit
	}
	for _, l := range copies {
		if e := CheckLeaves(s, l); e != api.OK {
			return nil, e
		}
	}
	return join(s, copies), api.OK
}

// join returns the leaves that most of some copies, whose leaves are valid, have.
func join(s api.Shape, copies [][]api.Leaf) []api.Leaf {
	var joined []api.Leaf
	for n := 1; n <= s.Data+s.Checks; n++ {
		if c, is := commonest(variants(copies, n)); is {
			joined = append(joined, api.Leaf{Number: n, Words: slices.Clone(c[:s.Width])})
		}
	}
	return joined
}
