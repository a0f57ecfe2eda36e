package levy_test

import (
	"math/big"
	"math/rand/v2"
	"slices"
	"testing"

	"drowner/api"
)

// The tests compare the package with what the chapter's definitions say, looked up in all groups and all lists of pence of small trees, and, for great ones, with flows from payers to reaches.

func reach(above, cost int) api.Reach { return api.Reach{Above: above, Cost: cost} }

func payer(id, reach, weight int) api.Payer { return api.Payer{ID: id, Reach: reach, Weight: weight} }

func ratio(num, den int) api.Ratio { return api.Ratio{Num: num, Den: den} }

// ratios returns whole numbers as fractions.
func ratios(l ...int) []api.Ratio {
	var out []api.Ratio
	for _, n := range l {
		out = append(out, ratio(n, 1))
	}
	return out
}

// brook is the tree of the chapter's examples, whose first reach has some Cost.
func brook(cost int) api.Tree {
	return api.Tree{
		Reaches: []api.Reach{reach(-1, cost), reach(0, 6), reach(0, 5), reach(1, 4)},
		Payers:  []api.Payer{payer(1, 1, 1), payer(2, 2, 1), payer(3, 3, 1), payer(4, 0, 1)},
	}
}

func example() api.Tree { return brook(12) }

func copyTree(t api.Tree) api.Tree {
	return api.Tree{Reaches: slices.Clone(t.Reaches), Payers: slices.Clone(t.Payers)}
}

func sameTree(a, b api.Tree) bool {
	return slices.Equal(a.Reaches, b.Reaches) && slices.Equal(a.Payers, b.Payers)
}

// with returns a tree with something done to it, in new memory.
func with(t api.Tree, do func(t *api.Tree)) api.Tree {
	t = copyTree(t)
	do(&t)
	return t
}

// uses is as the chapter says.
func uses(t api.Tree, p api.Payer, reach int) bool {
	return p.Reach == reach || p.Reach > 0 && t.Reaches[p.Reach].Above >= 0 && uses(t, payer(p.ID, t.Reaches[p.Reach].Above, 1), reach)
}

// usersOf returns the payers who use a reach, in order.
func usersOf(t api.Tree, reach int) []api.Payer {
	var l []api.Payer
	for _, p := range t.Payers {
		if uses(t, p, reach) {
			l = append(l, p)
		}
	}
	return l
}

func idsOf(l []api.Payer) []int {
	var ids []int
	for _, p := range l {
		ids = append(ids, p.ID)
	}
	slices.Sort(ids)
	return ids
}

func everybody(t api.Tree) []int { return idsOf(t.Payers) }

// usedBy returns the reaches that some of the payers with some IDs uses, in order.
func usedBy(t api.Tree, ids []int) []int {
	var l []int
	for r := range t.Reaches {
		if slices.ContainsFunc(usersOf(t, r), func(p api.Payer) bool { return slices.Contains(ids, p.ID) }) {
			l = append(l, r)
		}
	}
	return l
}

// aloneOf returns what payers would pay alone.
func aloneOf(t api.Tree, ids []int) int {
	n := 0
	for _, r := range usedBy(t, ids) {
		n += t.Reaches[r].Cost
	}
	return n
}

func wholeOf(t api.Tree) int { return aloneOf(t, everybody(t)) }

// askedOf returns what is asked of payers.
func askedOf(t api.Tree, pence, ids []int) int {
	n := 0
	for i, p := range t.Payers {
		if slices.Contains(ids, p.ID) {
			n += pence[i]
		}
	}
	return n
}

// othersOf returns all payers but some.
func othersOf(t api.Tree, ids []int) []int {
	return slices.DeleteFunc(everybody(t), func(id int) bool { return slices.Contains(ids, id) })
}

// groupsOf returns all groups of a small tree, the empty one among them.
func groupsOf(t api.Tree) [][]int {
	all := everybody(t)
	var l [][]int
	for n := range 1 << len(all) {
		var g []int
		for i, id := range all {
			if n>>i&1 == 1 {
				g = append(g, id)
			}
		}
		l = append(l, g)
	}
	return l
}

// costsOf returns what each group of a small tree would pay alone, by groupsOf.
func costsOf(t api.Tree) []int {
	var l []int
	for _, g := range groupsOf(t) {
		l = append(l, aloneOf(t, g))
	}
	return l
}

// paysMost returns the group of a small tree that pays too much by the most, and by how much; of several ones one with the fewest payers.
func paysMost(t api.Tree, pence []int) ([]int, int) {
	var best []int
	most := 0
	for _, g := range groupsOf(t) {
		n := askedOf(t, pence, g) - aloneOf(t, g)
		if n > most || n == most && n > 0 && len(g) < len(best) {
			best, most = g, n
		}
	}
	return best, most
}

// isFair reports of a small tree whether pence are fair.
func isFair(t api.Tree, pence []int) bool {
	if total(pence) != wholeOf(t) {
		return false
	}
	_, n := paysMost(t, pence)
	return n == 0
}

func total(l []int) int {
	n := 0
	for _, x := range l {
		n += x
	}
	return n
}

// fairLists returns all fair pence of a small tree of small Costs, in order.
func fairLists(t api.Tree) [][]int {
	var all [][]int
	whole := wholeOf(t)
	var fill func(l []int, left int)
	fill = func(l []int, left int) {
		if len(l) < len(t.Payers) {
			for n := range left + 1 {
				fill(append(l, n), left-n)
			}
		} else if isFair(t, l) {
			all = append(all, slices.Clone(l))
		}
	}
	fill(nil, whole)
	return all
}

// isDivision is as the chapter says.
func isDivision(t api.Tree, pence []int, d [][]int) bool {
	if len(d) != len(t.Reaches) {
		return false
	}
	sums := make([]*big.Int, len(pence))
	for i := range sums {
		sums[i] = new(big.Int)
	}
	for r, l := range d {
		if len(l) != len(t.Payers) {
			return false
		}
		paid := new(big.Int)
		for i, n := range l {
			if n < 0 || n > 0 && !uses(t, t.Payers[i], r) {
				return false
			}
			paid.Add(paid, big.NewInt(int64(n)))
			sums[i].Add(sums[i], big.NewInt(int64(n)))
		}
		due := 0
		if len(usersOf(t, r)) > 0 {
			due = t.Reaches[r].Cost
		}
		if paid.Cmp(big.NewInt(int64(due))) != 0 {
			return false
		}
	}
	for i, n := range pence {
		if sums[i].Cmp(big.NewInt(int64(n))) != 0 {
			return false
		}
	}
	return true
}

// piecesOf returns what a payer pays of each reach, as the chapter defines it.
func piecesOf(t api.Tree, p api.Payer) []*big.Rat {
	var l []*big.Rat
	for r, x := range t.Reaches {
		piece := new(big.Rat)
		if uses(t, p, r) {
			heads := 0
			for _, q := range usersOf(t, r) {
				heads += q.Weight
			}
			piece.SetFrac64(int64(x.Cost*p.Weight), int64(heads))
		}
		l = append(l, piece)
	}
	return l
}

// sharesOf returns the shares, as the chapter defines them.
func sharesOf(t api.Tree) []*big.Rat {
	var l []*big.Rat
	for _, p := range t.Payers {
		share := new(big.Rat)
		for _, x := range piecesOf(t, p) {
			share.Add(share, x)
		}
		l = append(l, share)
	}
	return l
}

// lowestOf returns fractions in lowest terms.
func lowestOf(l []*big.Rat) []api.Ratio {
	out := []api.Ratio{}
	for _, x := range l {
		out = append(out, ratio(int(x.Num().Int64()), int(x.Denom().Int64())))
	}
	return out
}

// rat returns a fraction.
func rat(x api.Ratio) *big.Rat { return big.NewRat(int64(x.Num), int64(x.Den)) }

func sumOf(l []api.Ratio) *big.Rat {
	n := new(big.Rat)
	for _, x := range l {
		n.Add(n, rat(x))
	}
	return n
}

// around returns the whole numbers next to the shares, from below and from above: the same ones if they are whole.
func around(t api.Tree) (below, above []int) {
	for _, x := range sharesOf(t) {
		n := int(new(big.Int).Div(x.Num(), x.Denom()).Int64())
		below = append(below, n)
		if x.IsInt() {
			above = append(above, n)
		} else {
			above = append(above, n+1)
		}
	}
	return below, above
}

// flow is how much of what is asked of payers can be paid to reaches that they use.
type flow struct {
	t    api.Tree
	left []int // of each payer
	due  []int // of each reach
	sent [][]int
	been map[[2]int]bool
}

// flowOf returns a greatest flow.
func flowOf(t api.Tree, pence []int) flow {
	f := flow{t: t, left: slices.Clone(pence)}
	for _, x := range t.Reaches {
		f.due = append(f.due, x.Cost)
		f.sent = append(f.sent, make([]int, len(t.Payers)))
	}
	for i := range t.Payers {
		for f.left[i] > 0 {
			f.been = map[[2]int]bool{}
			n := f.send(i, f.left[i])
			if n == 0 {
				break
			}
			f.left[i] -= n
		}
	}
	return f
}

// send lets a payer send at most so much more on, and returns how much it could.
func (f flow) send(i, most int) int {
	if f.been[[2]int{0, i}] {
		return 0
	}
	f.been[[2]int{0, i}] = true
	for r := range f.t.Reaches {
		if !uses(f.t, f.t.Payers[i], r) || f.been[[2]int{1, r}] {
			continue
		}
		f.been[[2]int{1, r}] = true
		n := min(most, f.due[r])
		f.due[r] -= n
		for j := 0; j < len(f.t.Payers) && n == 0; j++ {
			if f.sent[r][j] > 0 {
				n = f.send(j, min(most, f.sent[r][j]))
				f.sent[r][j] -= n
			}
		}
		if n > 0 {
			f.sent[r][i] += n
			return n
		}
	}
	return 0
}

// stuck returns what is left over, and all from whom more could be sent if those could who have something left; they pay too much by the most, and are the fewest who do.
func (f flow) stuck() ([]int, int) {
	f.been = map[[2]int]bool{}
	for i, n := range f.left {
		if n > 0 {
			f.send(i, 1)
		}
	}
	var ids []int
	for i, p := range f.t.Payers {
		if f.been[[2]int{0, i}] {
			ids = append(ids, p.ID)
		}
	}
	slices.Sort(ids)
	return ids, total(f.left)
}

// isBetween reports of a great tree whether there are fair pence between two lists: if all of the one can be sent, and the other one can pay all reaches that are used, one flow does both.
func isBetween(t api.Tree, below, above []int) bool {
	if slices.ContainsFunc(below, func(n int) bool { return n < 0 }) {
		return false
	}
	return total(flowOf(t, below).left) == 0 && total(above)-total(flowOf(t, above).left) == wholeOf(t)
}

// chance returns numbers that are the same in each run.
func chance(seed uint64) *rand.Rand { return rand.New(rand.NewPCG(seed, 8)) }

// anyTree returns a tree with up to so many reaches, payers, and pence for a reach.
func anyTree(r *rand.Rand, reaches, payers, cost int) api.Tree {
	var t api.Tree
	deep := r.IntN(3)
	for i := range r.IntN(reaches + 1) {
		above := i - 1
		if r.IntN(3) >= deep {
			above = r.IntN(i+1) - 1
		}
		x := reach(above, r.IntN(cost+1))
		switch r.IntN(8) {
		case 0:
			x.Cost = 0
		case 1:
			x.Cost = cost
		}
		t.Reaches = append(t.Reaches, x)
	}
	if len(t.Reaches) == 0 {
		return t
	}
	ids := r.Perm(3 * payers)
	heads, count := api.MaxHeads, r.IntN(payers+1)
	for i := range count {
		spare := heads - (count - i)
		p := payer(1+ids[i], r.IntN(len(t.Reaches)), 1)
		if spare > 0 && r.IntN(3) > 0 {
			p.Weight += r.IntN(min(spare, 6) + 1)
		}
		heads -= p.Weight
		t.Payers = append(t.Payers, p)
	}
	return t
}

// small does something with trees that have few payers.
func small(seed uint64, times int, do func(r *rand.Rand, t api.Tree)) {
	r := chance(seed)
	for range times {
		do(r, anyTree(r, 6, 6, 1+r.IntN(20)))
	}
}

// tiny does something with trees whose fair pence can all be looked at.
func tiny(seed uint64, times int, do func(r *rand.Rand, t api.Tree)) {
	r := chance(seed)
	for range times {
		do(r, anyTree(r, 4, 4, 1+r.IntN(5)))
	}
}

// large does something with trees of up to as many reaches and payers as there can be.
func large(seed uint64, times int, do func(r *rand.Rand, t api.Tree)) {
	r := chance(seed)
	for range times {
		do(r, anyTree(r, api.MaxReaches, api.MaxUsers, []int{10, 1000, api.MaxCost}[r.IntN(3)]))
	}
}

// anyGroup returns some of the payers.
func anyGroup(r *rand.Rand, t api.Tree) []int {
	kept := r.IntN(4)
	return slices.DeleteFunc(everybody(t), func(int) bool { return r.IntN(4) >= kept })
}

// anyDivision returns a division of fair pence.
func anyDivision(r *rand.Rand, t api.Tree) [][]int {
	var d [][]int
	for i, x := range t.Reaches {
		l := make([]int, len(t.Payers))
		users := usersOf(t, i)
		for left := x.Cost; left > 0 && len(users) > 0; {
			n := 1 + r.IntN(left)
			id := users[r.IntN(len(users))].ID
			l[slices.IndexFunc(t.Payers, func(p api.Payer) bool { return p.ID == id })] += n
			left -= n
		}
		d = append(d, l)
	}
	return d
}

// dividedBy returns what payers pay by a division.
func dividedBy(t api.Tree, d [][]int) []int {
	pence := make([]int, len(t.Payers))
	for _, l := range d {
		for i, n := range l {
			pence[i] += n
		}
	}
	return pence
}

// anyFair returns fair pence.
func anyFair(r *rand.Rand, t api.Tree) []int { return dividedBy(t, anyDivision(r, t)) }

// anyPence returns pence that are fair, or nearly so, or not at all.
func anyPence(r *rand.Rand, t api.Tree) []int {
	l := anyFair(r, t)
	if len(l) == 0 {
		return l
	}
	for range r.IntN(6) {
		n := 1 + r.IntN(max(1, wholeOf(t)/3))
		if r.IntN(2) == 0 {
			n = 1 + r.IntN(3)
		}
		from := r.IntN(len(l))
		n = min(n, l[from])
		l[from] -= n
		l[r.IntN(len(l))] += n
	}
	if r.IntN(4) == 0 {
		l[r.IntN(len(l))] += r.IntN(4)
	}
	if r.IntN(6) == 0 {
		l[r.IntN(len(l))] = 0
	}
	return l
}

// want fails a test unless an error is as it should be.
func want(t *testing.T, what string, got, wanted api.Errno) {
	t.Helper()
	if got != wanted {
		t.Errorf("%s: error %d, not %d", what, got, wanted)
	}
}
