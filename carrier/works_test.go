package carrier_test

import (
	"slices"
	"testing"

	"drowner/api"
	"drowner/carrier"
)

// ids returns the IDs of the outlets with some numbers.
func ids(w api.Works, at []int) []int {
	var l []int
	for _, i := range at {
		l = append(l, sites(w)[i].o.ID)
	}
	return l
}

// P2.2: heads, outlets, beds, paths and what lies below, by their definitions.
func TestPlaces(t *testing.T) {
	r := chance(1)
	for range 400 {
		w := anyWorks(r, 6, 12, 2, 5, 2)
		var all, beds []int
		for i, x := range sites(w) {
			all = append(all, x.o.ID)
			if x.o.Into < 0 {
				beds = append(beds, x.o.ID)
			}
			path, e := carrier.Path(w, x.o.ID)
			if e != api.OK || !slices.Equal(path, ids(w, pathOf(w, i))) {
				t.Fatal("Path", w, x.o.ID, path, e)
			}
			var below []int
			for j, y := range sites(w) {
				if y.o.Into < 0 && slices.Contains(pathOf(w, j), i) {
					below = append(below, y.o.ID)
				}
			}
			l, e := carrier.Below(w, x.o.ID)
			if e != api.OK || !slices.Equal(l, below) {
				t.Fatal("Below", w, x.o.ID, l, e)
			}
		}
		a, e := carrier.Heads(w)
		if e != api.OK || !slices.Equal(a, headsOf(w)) {
			t.Fatal("Heads", w, a, e)
		}
		b, e := carrier.Outlets(w)
		if e != api.OK || !slices.Equal(b, all) {
			t.Fatal("Outlets", w, b, e)
		}
		c, e := carrier.Beds(w)
		if e != api.OK || !slices.Equal(c, beds) {
			t.Fatal("Beds", w, c, e)
		}
	}
}

// P2.2: works without anything, and carriers without outlets.
func TestPlacesOfNothing(t *testing.T) {
	for _, n := range []int{0, 1, 3} {
		w := api.Works{Carriers: make([]api.Carrier, n)}
		a, e := carrier.Heads(w)
		b, f := carrier.Outlets(w)
		c, g := carrier.Beds(w)
		if e != api.OK || f != api.OK || g != api.OK || len(a) != n || len(b)+len(c) != 0 {
			t.Error(n, a, b, c, e, f, g)
		}
	}
}

// P2.2: the greatest works.
func TestLongestPath(t *testing.T) {
	w := chain(api.MaxCarriers, 2)
	last := sites(w)[len(sites(w))-1].o.ID
	l, e := carrier.Path(w, last)
	if e != api.OK || len(l) != api.MaxCarriers || l[0] != 1 || l[len(l)-1] != last {
		t.Error(l, e)
	}
	l, e = carrier.Below(w, 1)
	if e != api.OK || len(l) != 30 {
		t.Error(l, e)
	}
}

// kept returns which carriers are left without one, by the definition: a carrier goes if water comes by the one that goes.
func kept(w api.Works, gone int) []int {
	goes := func(c int) bool {
		for {
			if c == gone {
				return true
			}
			up := feeder(w, c)
			if up < 0 {
				return false
			}
			c = sites(w)[up].carrier
		}
	}
	var l []int
	for c := range w.Carriers {
		if !goes(c) {
			l = append(l, c)
		}
	}
	return l
}

// without returns works without a carrier, by the definition.
func without(w api.Works, gone int) api.Works {
	left := kept(w, gone)
	var x api.Works
	for _, c := range left {
		k := copyWorks(api.Works{Carriers: w.Carriers[c : c+1]}).Carriers[0]
		for i, o := range k.Outlets {
			if o.Into >= 0 {
				k.Outlets[i].Into = slices.Index(left, o.Into)
			}
		}
		x.Carriers = append(x.Carriers, k)
	}
	return x
}

// P2.10, P2.16: works without a carrier, and what flows there.
func TestWithout(t *testing.T) {
	r := chance(2)
	for range 400 {
		w := anyWorks(r, 6, 12, 3, 9, 3)
		s := anyWater(r, w, all(w, span(0, 60)))
		flow, e := carrier.Flow(w, s)
		want(t, "Flow", e, api.OK)
		for gone := range w.Carriers {
			if driesUp(w, gone) {
				continue // TestWithoutWhatIsDry says what happens then
			}
			x, e := carrier.Without(w, gone)
			if e != api.OK || !sameWorks(x, without(w, gone)) {
				t.Fatal(w, gone, x, e)
			}
			want(t, "what is left", carrier.Check(x), api.OK)
			left := kept(w, gone)
			var y api.Water
			var rest []int
			for i, c := range headsOf(w) {
				if slices.Contains(left, c) {
					y.River = append(y.River, s.River[i])
				}
			}
			for i, o := range sites(w) {
				if slices.Contains(left, o.carrier) {
					y.Boards, y.Leaks, y.Losses = append(y.Boards, s.Boards[i]), append(y.Leaks, s.Leaks[i]), append(y.Losses, s.Losses[i])
					rest = append(rest, flow[i])
				}
			}
			now, e := carrier.Flow(x, y)
			if e != api.OK || !slices.Equal(now, rest) {
				t.Fatal(w, gone, now, rest, e)
			}
		}
	}
}

// driesUp reports whether a carrier without outlets goes with another one.
func driesUp(w api.Works, gone int) bool {
	left := kept(w, gone)
	for c, x := range w.Carriers {
		if c != gone && len(x.Outlets) == 0 && !slices.Contains(left, c) {
			return true
		}
	}
	return false
}

// P2.10: a carrier without outlets goes, too, if the one that feeds it goes.
func TestWithoutWhatIsDry(t *testing.T) {
	w := api.Works{Carriers: make([]api.Carrier, 4)}
	w.Carriers[0].Outlets = []api.Outlet{{ID: 1, Into: 1, Passes: []int{1}}, {ID: 3, Into: 3, Passes: []int{4}}}
	w.Carriers[1].Outlets = []api.Outlet{{ID: 2, Into: 2, Passes: []int{2}}}
	x, e := carrier.Without(w, 1)
	if e != api.OK || !sameWorks(x, api.Works{Carriers: []api.Carrier{{Outlets: []api.Outlet{{ID: 1, Into: -1, Passes: []int{1}}, {ID: 3, Into: 1, Passes: []int{4}}}}, {}}}) {
		t.Error(x, e)
	}
}
