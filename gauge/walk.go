package gauge

import (
	"cmp"
	"iter"
	"maps"
	"slices"

	"drowner/api"
)

// state is the Runs of a stand (-1 where there is no gauge) and, if they are counted, how many readings are stuck up to it.
type state struct {
	runs  [api.MaxGauges]int
	stuck int
}

func stateOf(runs []int) state {
	var s state
	for i := range s.runs {
		s.runs[i] = -1
	}
	copy(s.runs[:], runs)
	return s
}

func compare(a, b state) int {
	return cmp.Or(slices.Compare(a.runs[:], b.runs[:]), cmp.Compare(a.stuck, b.stuck))
}

// layer is the stands at one place: the levels that are possible in each state.
type layer map[state]levels

// sorted returns the states of a layer in their order, so that no result depends on that of the map.
func (l layer) sorted() []state { return slices.SortedFunc(maps.Keys(l), compare) }

// all returns the levels of all states.
func (l layer) all() levels {
	var all levels
	for _, x := range l {
		all = all.or(x)
	}
	return all
}

// way is what an item makes of a state: another one, with the levels that are left.
type way struct {
	to   state
	left api.Span
}

// walk goes through the items of a well.
type walk struct {
	well  api.Well
	items []item
	ways  func(s state, x item) []way
}

// walkOf returns a walk in which stuck readings are counted, or not.
func walkOf(w api.Well, counted bool) walk {
	k := walk{well: w, ways: waysOf(w, counted)}
	for _, x := range items(w) {
		k.items = append(k.items, x)
	}
	return k
}

// waysOf returns what tells what comes of a state by an item.
func waysOf(w api.Well, counted bool) func(s state, x item) []way {
	return func(s state, x item) []way {
		live := way{s, x.left}
		if x.gauge < 0 {
			return []way{live}
		}
		run := s.runs[x.gauge]
		live.to.runs[x.gauge] = 0
		if !x.again || run < 0 || run >= w.Gauges[x.gauge].Stick {
			return []way{live}
		}
		stuck := way{s, span(0, w.Top)}
		stuck.to.runs[x.gauge]++
		if counted {
			stuck.to.stuck++
		}
		return []way{live, stuck}
	}
}

// sticks reports whether an item is a reading that is stuck in the state behind it.
func (x item) sticks(s state) bool { return x.gauge >= 0 && s.runs[x.gauge] > 0 }

// beginning returns the state ahead of all items, and its levels.
func (k walk) beginning() (state, levels) {
	return stateOf(nil), levelsOf([]api.Span{span(0, k.well.Top)})
}

// moved returns what becomes of levels until an item.
func (k walk) moved(l levels, x item) levels {
	return l.spread(k.well.Fall*x.later, k.well.Rise*x.later, k.well.Top)
}

// back returns from which levels some are reached at an item.
func (k walk) back(l levels, x item) levels {
	return l.spread(k.well.Rise*x.later, k.well.Fall*x.later, k.well.Top)
}

// comes returns what comes of a layer by an item, without what has no levels.
func (k walk) comes(from layer, x item) layer {
	to := layer{}
	for s, l := range from {
		moved := k.moved(l, x)
		for _, v := range k.ways(s, x) {
			if left := moved.cut(v.left); !left.isEmpty() {
				to[v.to] = to[v.to].or(left)
			}
		}
	}
	return to
}

// reached returns the layer at the beginning, and that behind each item.
func (k walk) reached() []layer {
	s, l := k.beginning()
	here := layer{s: l}
	list := []layer{here}
	for _, x := range k.items {
		here = k.comes(here, x)
		list = append(list, here)
	}
	return list
}

// narrow leaves of layers only what goes on to the last one: just what tales pass.
func (k walk) narrow(list []layer) {
	for i := len(k.items) - 1; i >= 0; i-- {
		list[i] = k.leads(list[i], list[i+1], k.items[i])
	}
}

// leads returns what of a layer leads to another one by an item.
func (k walk) leads(from, to layer, x item) layer {
	left := layer{}
	for s, l := range from {
		var on levels
		for _, v := range k.ways(s, x) {
			on = on.or(k.back(to[v.to].cut(v.left), x))
		}
		if l = l.and(on); !l.isEmpty() {
			left[s] = l
		}
	}
	return left
}

// passed returns what tales pass at the beginning and behind each item, and whether there is a tale.
func (k walk) passed() ([]layer, bool) {
	list := k.reached()
	if len(list[len(k.items)]) == 0 {
		return nil, false
	}
	k.narrow(list)
	return list, true
}

// looks yields the readings, each with the layer behind it.
func (k walk) looks(list []layer) iter.Seq2[item, layer] {
	return func(yield func(item, layer) bool) {
		for i, x := range k.items {
			if x.gauge >= 0 && !yield(x, list[i+1]) {
				return
			}
		}
	}
}

// tale returns a tale, of layers which tales pass.
func (k walk) tale(list []layer) api.Tale {
	var t api.Tale
	s, here := k.beginning()
	for i, x := range k.items {
		moved := k.moved(here, x)
	search:
		for _, v := range k.ways(s, x) {
			for n := range moved.cut(v.left).and(list[i+1][v.to]).each() {
				if x.sticks(v.to) {
					t.Stuck = append(t.Stuck, x.id)
				}
				t.Levels = append(t.Levels, n)
				s, here = v.to, levelsOf([]api.Span{span(n, n)})
				break search
			}
		}
	}
	slices.Sort(t.Stuck)
	return t
}
