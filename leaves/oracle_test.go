package leaves_test

import (
	"cmp"
	"math/big"
	"math/rand/v2"
	"slices"
	"testing"

	"drowner/api"
)

// The tests compare the package with what the chapter's definitions say. Values of leaves are reckoned from points, without coefficients; data of few leaves are looked for in all that so many of the leaves as Data can come from.

const prime = api.Prime

func shape(data, checks, width int) api.Shape {
	return api.Shape{Data: data, Checks: checks, Width: width}
}

// example is the shape of the chapter's examples.
func example() api.Shape { return shape(2, 2, 1) }

// greatest is the shape of the greatest books.
func greatest() api.Shape { return shape(api.MaxData, api.MaxChecks, api.MaxWidth) }

func leaf(number int, words ...int) api.Leaf { return api.Leaf{Number: number, Words: words} }

func line(id, day, what, worth int) api.Line {
	return api.Line{ID: id, Day: day, What: what, Worth: worth}
}

func dot(x, y int) api.Dot { return api.Dot{X: x, Y: y} }

// rows returns lists of one word each.
func rows(l ...int) [][]int {
	var out [][]int
	for _, n := range l {
		out = append(out, []int{n})
	}
	return out
}

func copyRows(l [][]int) [][]int {
	var out [][]int
	for _, x := range l {
		out = append(out, slices.Clone(x))
	}
	return out
}

func sameRows(a, b [][]int) bool { return slices.EqualFunc(a, b, slices.Equal[[]int]) }

func copyLeaves(l []api.Leaf) []api.Leaf {
	var out []api.Leaf
	for _, x := range l {
		out = append(out, leaf(x.Number, slices.Clone(x.Words)...))
	}
	return out
}

func sameLeaf(a, b api.Leaf) bool { return a.Number == b.Number && slices.Equal(a.Words, b.Words) }

func sameLeaves(a, b []api.Leaf) bool { return slices.EqualFunc(a, b, sameLeaf) }

func sameMended(a, b api.Mended) bool {
	return sameRows(a.Data, b.Data) && slices.Equal(a.Wrong, b.Wrong)
}

// word returns the word of an integer.
func word(n int) int { return ((n % prime) + prime) % prime }

func inverseOf(n int) int {
	return int(new(big.Int).ModInverse(big.NewInt(int64(word(n))), big.NewInt(prime)).Int64())
}

// valueOf is the value of a polynomial, as the chapter says.
func valueOf(c []int, x int) int {
	all := new(big.Int)
	for k, n := range c {
		power := new(big.Int).Exp(big.NewInt(int64(x)), big.NewInt(int64(k)), nil)
		all.Add(all, power.Mul(power, big.NewInt(int64(n))))
	}
	return int(all.Mod(all, big.NewInt(prime)).Int64())
}

// weights returns how much the value at a word depends on that at each of some X, by Lagrange's formula.
func weights(xs []int, at int) []int {
	var l []int
	for k, x := range xs {
		above, below := 1, 1
		for m, y := range xs {
			if m != k {
				above = word(above * word(at-y))
				below = word(below * word(x-y))
			}
		}
		l = append(l, word(above*inverseOf(below)))
	}
	return l
}

// leafOf returns the leaf with a number, by others of which there are as many as Data.
func leafOf(l []api.Leaf, number int) api.Leaf {
	var xs []int
	for _, x := range l {
		xs = append(xs, x.Number)
	}
	out := leaf(number, make([]int, len(l[0].Words))...)
	for k, w := range weights(xs, number) {
		for j, n := range l[k].Words {
			out.Words[j] = word(out.Words[j] + w*n)
		}
	}
	return out
}

// wholeOf returns all leaves of a book.
func wholeOf(s api.Shape, data [][]int) []api.Leaf {
	var first, l []api.Leaf
	for i, x := range data {
		first = append(first, leaf(i+1, x...))
	}
	for i := range s.Data + s.Checks {
		l = append(l, leafOf(first, i+1))
	}
	return l
}

// wrongOf returns the numbers of the leaves that are wrong for data.
func wrongOf(s api.Shape, l []api.Leaf, data [][]int) []int {
	all := wholeOf(s, data)
	var wrong []int
	for _, x := range l {
		if !sameLeaf(x, all[x.Number-1]) {
			wrong = append(wrong, x.Number)
		}
	}
	slices.Sort(wrong)
	return wrong
}

// choices returns all lists of so many of some leaves.
func choices(l []api.Leaf, count int) [][]api.Leaf {
	if count == 0 {
		return [][]api.Leaf{nil}
	}
	var all [][]api.Leaf
	for i := range l {
		for _, x := range choices(l[i+1:], count-1) {
			all = append(all, append([]api.Leaf{l[i]}, x...))
		}
	}
	return all
}

// mendsOf returns what is mended of few leaves: the data that are those of them, each once, with the wrong leaves. At least as many leaves as Data are right for such data.
func mendsOf(s api.Shape, l []api.Leaf) []api.Mended {
	var found []api.Mended
	for _, c := range choices(l, s.Data) {
		var data [][]int
		for i := range s.Data {
			data = append(data, leafOf(c, i+1).Words)
		}
		wrong := wrongOf(s, l, data)
		m := api.Mended{Data: data, Wrong: wrong}
		isThere := slices.ContainsFunc(found, func(x api.Mended) bool { return sameMended(x, m) })
		if 2*len(wrong)+s.Data <= len(l) && !isThere {
			found = append(found, m)
		}
	}
	return found
}

// mendOf returns what Mend should return of few leaves.
func mendOf(t *testing.T, s api.Shape, l []api.Leaf) (api.Mended, api.Errno) {
	t.Helper()
	if len(l) < s.Data {
		return api.Mended{}, api.ErrNone
	}
	found := mendsOf(s, l)
	if len(found) > 1 {
		t.Fatal("more than one", s, l, found)
	}
	if len(found) == 0 {
		return api.Mended{}, api.ErrClash
	}
	return found[0], api.OK
}

// joinOf returns what Join should return: each leaf of a copy than which no other one with its number stands in as many copies.
func joinOf(s api.Shape, copies [][]api.Leaf) []api.Leaf {
	var all, joined []api.Leaf
	for _, l := range copies {
		all = append(all, l...)
	}
	count := func(x api.Leaf) int {
		n := 0
		for _, y := range all {
			if sameLeaf(x, y) {
				n++
			}
		}
		return n
	}
	for number := range s.Data + s.Checks + 1 {
		for _, x := range all {
			isLess := func(y api.Leaf) bool { return y.Number != number || sameLeaf(x, y) || count(y) < count(x) }
			if x.Number == number && !slices.ContainsFunc(all, func(y api.Leaf) bool { return !isLess(y) }) {
				joined = append(joined, x)
				break
			}
		}
	}
	return joined
}

// digits returns so many digits of a number to the base Prime.
func digits(n, count int) []int {
	l := make([]int, count)
	for i := range l {
		l[count-1-i] = n % prime
		n /= prime
	}
	return l
}

// wordsOf returns the words of lines.
func wordsOf(l []api.Line) []int {
	words := []int{len(l)}
	for _, x := range l {
		words = slices.Concat(words, digits(x.ID, 3), []int{x.Day, x.What}, digits(x.Worth, 2))
	}
	return words
}

// laid returns words, and zeros behind them, as data of a shape.
func laid(s api.Shape, words ...int) [][]int {
	var data [][]int
	for i := range s.Data {
		l := make([]int, s.Width)
		for j := range l {
			if at := i*s.Width + j; at < len(words) {
				l[j] = words[at]
			}
		}
		data = append(data, l)
	}
	return data
}

func byDay(a, b api.Line) int { return cmp.Or(a.Day-b.Day, a.ID-b.ID) }

// sortedOf returns lines by Day and ID.
func sortedOf(l []api.Line) []api.Line {
	l = slices.Clone(l)
	slices.SortFunc(l, byDay)
	return l
}

func chance(seed uint64) *rand.Rand { return rand.New(rand.NewPCG(seed, 9)) }

// anyWord returns a word, more often one near to an end than any other one.
func anyWord(r *rand.Rand) int {
	switch r.IntN(4) {
	case 0:
		return r.IntN(3)
	case 1:
		return prime - 1 - r.IntN(3)
	}
	return r.IntN(prime)
}

func anyWords(r *rand.Rand, count int) []int {
	l := make([]int, count)
	for i := range l {
		l[i] = anyWord(r)
	}
	return l
}

func anyShape(r *rand.Rand, data, checks, width int) api.Shape {
	return shape(1+r.IntN(data), r.IntN(checks+1), 1+r.IntN(width))
}

func anyData(r *rand.Rand, s api.Shape) [][]int {
	var data [][]int
	for range s.Data {
		data = append(data, anyWords(r, s.Width))
	}
	return data
}

// some returns so many of some leaves, in any order.
func some(r *rand.Rand, l []api.Leaf, count int) []api.Leaf {
	var out []api.Leaf
	for _, i := range r.Perm(len(l))[:count] {
		out = append(out, l[i])
	}
	return out
}

// spoiled returns leaves of which the first ones, as many as asked, are others in some places, and the numbers of these.
func spoiled(r *rand.Rand, l []api.Leaf, count int) ([]api.Leaf, []int) {
	l = copyLeaves(l)
	var wrong []int
	for i := range count {
		for k, j := range r.Perm(len(l[i].Words)) {
			if k == 0 || r.IntN(3) == 0 {
				l[i].Words[j] = word(l[i].Words[j] + 1 + r.IntN(prime-1))
			}
		}
		wrong = append(wrong, l[i].Number)
	}
	r.Shuffle(len(l), func(i, j int) { l[i], l[j] = l[j], l[i] })
	slices.Sort(wrong)
	return l, wrong
}

// anyLines returns up to so many lines, whose IDs are small, or any.
func anyLines(r *rand.Rand, count, id int) []api.Line {
	var l []api.Line
	for range r.IntN(count + 1) {
		x := line(1+r.IntN(id), r.IntN(api.MaxDay+1), r.IntN(api.MaxWhat+1), r.IntN(api.MaxWorth+1))
		switch r.IntN(6) {
		case 0:
			x.Day, x.What, x.Worth = 0, 0, 0
		case 1:
			x.Day, x.What, x.Worth = api.MaxDay, api.MaxWhat, api.MaxWorth
		case 2:
			x.Day, x.What, x.Worth = r.IntN(4), r.IntN(2), prime-1+r.IntN(3)
		}
		if !slices.ContainsFunc(l, func(y api.Line) bool { return x.ID == y.ID }) {
			l = append(l, x)
		}
	}
	return l
}

func mixed[T any](r *rand.Rand, l []T) []T {
	l = slices.Clone(l)
	r.Shuffle(len(l), func(i, j int) { l[i], l[j] = l[j], l[i] })
	return l
}

func want(t *testing.T, what string, got, wanted api.Errno) {
	t.Helper()
	if got != wanted {
		t.Errorf("%s: error %d, not %d", what, got, wanted)
	}
}
