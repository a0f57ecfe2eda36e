package deed

import (
	"cmp"
	"maps"
	"slices"

	"drowner/api"
)

// manor is the turns that are founded, by their names.
type manor map[string]lot

// take lets a deed take effect, and reports whether it does.
func (m manor) take(d api.Deed) bool {
	t := m[d.Turn].after(d)
	if len(t) == 0 {
		return false
	}
	m[d.Turn] = t
	return true
}

// names returns the names of the turns, sorted.
func (m manor) names() []string { return slices.Sorted(maps.Keys(m)) }

// Order returns the indices of the deeds that are known on a day, in the order in which they count.
func Order(l []api.Deed, day, known int) ([]int, api.Errno) {
	if e := Check(l); e != api.OK {
		return nil, e
	}
	if !isDay(day) || !isDay(known) {
		return nil, api.ErrArg
	}
	var order []int
	for i, d := range l {
		if d.Day <= day && d.Known <= known {
			order = append(order, i)
		}
	}
	slices.SortFunc(order, inTime(l))
	return order, api.OK
}

// inTime returns how the indices of two deeds compare by when these count.
func inTime(l []api.Deed) func(i, j int) int {
	return func(i, j int) int {
		return cmp.Or(cmp.Compare(l[i].Day, l[j].Day), cmp.Compare(i, j))
	}
}

// Void returns the indices of the deeds that have no effect, as known on a day.
func Void(l []api.Deed, day, known int) ([]int, api.Errno) {
	_, void, e := keep(l, day, known)
	return void, e
}

// keep returns the manor as the deeds that count leave it, and the indices of those among them that are void, in increasing order.
func keep(l []api.Deed, day, known int) (manor, []int, api.Errno) {
	order, e := Order(l, day, known)
	if e != api.OK {
		return nil, nil, e
	}
	m := manor{}
	var void []int
	for _, i := range order {
		if !m.take(l[i]) {
			void = append(void, i)
		}
	}
	slices.Sort(void)
	return m, void, api.OK
}

// Turns returns the turns that are founded.
func Turns(l []api.Deed, day, known int) ([]string, api.Errno) {
	m, _, e := keep(l, day, known)
	return m.names(), e
}

// Holdings returns what a person owns, and uses, of each turn.
func Holdings(l []api.Deed, name string, day, known int) ([]api.Holding, api.Errno) {
	m, _, e := keep(l, day, known)
	if e != api.OK {
		return nil, e
	}
	var all []api.Holding
	for _, turn := range m.names() {
		parts := m[turn].parts(day)
		if !slices.ContainsFunc(parts, func(p api.Part) bool { return p.Owner == name || p.User == name }) {
			continue
		}
		owns, e := total(parts, func(p api.Part) bool { return p.Owner == name && !p.Forfeited })
		if e != api.OK {
			return nil, e
		}
		has, e := total(parts, func(p api.Part) bool { return p.User == name })
		if e != api.OK {
			return nil, e
		}
		all = append(all, api.Holding{Turn: turn, Owns: owns, Has: has})
	}
	return all, api.OK
}

// total returns how long the parts are together for which a function says so. A length that is too fine is no share, and a sum of several parts never more than 1, so that the only error is ErrRange.
func total(l []api.Part, counts func(api.Part) bool) (api.Ratio, api.Errno) {
	sum := api.Ratio{Num: 0, Den: 1}
	for _, p := range l {
		if !counts(p) {
			continue
		}
		more, e := Add(sum, way(p.From, p.To))
		if e != api.OK {
			return api.Ratio{}, api.ErrRange
		}
		sum = more
	}
	return sum, api.OK
}

// Persons returns all persons who own or use something.
func Persons(l []api.Deed, day, known int) ([]string, api.Errno) {
	m, _, e := keep(l, day, known)
	if e != api.OK {
		return nil, e
	}
	seen := map[string]bool{}
	for _, t := range m {
		for _, p := range t.parts(day) {
			seen[p.Owner], seen[p.User] = true, true
		}
	}
	delete(seen, common)
	return slices.Sorted(maps.Keys(seen)), api.OK
}
