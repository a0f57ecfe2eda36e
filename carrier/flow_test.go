package carrier_test

import (
	"slices"
	"testing"

	"drowner/api"
	"drowner/carrier"
)

// flow returns what flows through each outlet, and fails a test if there is an error.
func flow(t *testing.T, w api.Works, s api.Water) []int {
	t.Helper()
	l, e := carrier.Flow(w, s)
	if e != api.OK {
		t.Fatal(w, s, e)
	}
	return l
}

// P2.3, P2.11: flows, tails and losses by their definitions; nothing comes to be, and nothing goes away.
func TestFlow(t *testing.T) {
	r := chance(3)
	for range 1000 {
		w := anyWorks(r, 5, 12, 3, 9, 3)
		s := anyWater(r, w, all(w, span(0, 5+r.IntN(80))))
		l := flow(t, w, s)
		tails, e := carrier.Tails(w, s)
		want(t, "Tails", e, api.OK)
		lost, e := carrier.Lost(w, s)
		want(t, "Lost", e, api.OK)
		if len(l) != len(sites(w)) || len(tails) != len(w.Carriers) || lost != lostOf(w, s) {
			t.Fatal(w, s, l, tails, lost)
		}
		sum := lost
		for i, x := range sites(w) {
			if l[i] != flowOf(w, s, i) {
				t.Fatal(w, s, l, i)
			}
			if x.o.Into < 0 {
				sum += l[i]
			}
		}
		for c, n := range tails {
			if n != tailOf(w, s, c) {
				t.Fatal(w, s, tails, c)
			}
			sum += n
		}
		for _, n := range s.River {
			sum -= n
		}
		if sum != 0 {
			t.Fatal(w, s, sum)
		}
	}
}

// P2.3: without outlets all is tail; without carriers nothing flows.
func TestFlowOfNothing(t *testing.T) {
	w, s := api.Works{Carriers: make([]api.Carrier, 2)}, api.Water{River: []int{7, api.MaxFlow}}
	l := flow(t, w, s)
	tails, e := carrier.Tails(w, s)
	if len(l) > 0 || e != api.OK || !slices.Equal(tails, []int{7, api.MaxFlow}) {
		t.Error(l, tails, e)
	}
	if l := flow(t, api.Works{}, api.Water{}); len(l) > 0 {
		t.Error(l)
	}
}

// P2.3: the loss comes first; a leak lets water through behind a board that lets none; what there is bounds both.
func TestFlowAtAnOutlet(t *testing.T) {
	w := api.Works{Carriers: []api.Carrier{{Outlets: []api.Outlet{{ID: 1, Into: -1, Passes: []int{0, 10}, Leak: span(0, 3), Loss: span(0, 5)}}}}}
	for _, x := range []struct{ river, board, leak, loss, lost, through, tail int }{
		{20, 1, 3, 5, 5, 13, 2}, {20, 0, 3, 5, 5, 3, 12}, {20, 0, 0, 0, 0, 0, 20}, {5, 1, 3, 5, 5, 0, 0}, {4, 1, 3, 5, 4, 0, 0}, {6, 1, 3, 5, 5, 1, 0}, {18, 1, 3, 5, 5, 13, 0}, {17, 1, 3, 5, 5, 12, 0}, {0, 1, 3, 5, 0, 0, 0},
	} {
		s := api.Water{River: []int{x.river}, Boards: []int{x.board}, Leaks: []int{x.leak}, Losses: []int{x.loss}}
		tails, _ := carrier.Tails(w, s)
		lost, _ := carrier.Lost(w, s)
		if l := flow(t, w, s); l[0] != x.through || tails[0] != x.tail || lost != x.lost {
			t.Error(x, l, tails, lost)
		}
	}
}

// P2.8, P2.14: the lowest board and the least river, tried one by one.
func TestWishes(t *testing.T) {
	r := chance(4)
	found := map[api.Errno]int{}
	for range 300 {
		w := anyWorks(r, 4, 8, 4, 9, 3)
		s := anyWater(r, w, all(w, span(0, 60)))
		for i, x := range sites(w) {
			n := r.IntN(12)
			board, e := carrier.Open(w, s, x.o.ID, n)
			y := copyWater(s)
			try := func(b int) bool { y.Boards[i] = b; return flowOf(w, y, i) >= n }
			low := 0
			for low < len(x.o.Passes) && !try(low) {
				low++
			}
			if low == len(x.o.Passes) && (e != api.ErrNone || board != 0) || low < len(x.o.Passes) && (e != api.OK || board != low) {
				t.Fatal("Open", w, s, x, n, board, e)
			}
			found[e]++
			river, e := carrier.Send(w, s, x.o.ID, n)
			head := slices.Index(headsOf(w), sites(w)[pathOf(w, i)[0]].carrier)
			y = copyWater(s)
			send := func(v int) bool { y.River[head] = v; return flowOf(w, y, i) >= n }
			switch {
			case e == api.OK:
				if !send(river) || !send(river+1) || !send(river+50) || river > 0 && send(river-1) {
					t.Fatal("Send", w, s, x, n, river)
				}
			case e != api.ErrNone || river != 0 || send(api.MaxFlow):
				t.Fatal("Send", w, s, x, n, river, e)
			}
			found[e]++
		}
	}
	if found[api.OK] < 500 || found[api.ErrNone] < 500 {
		t.Error("too few of a kind", found)
	}
}

// P2.8: all that the river can give, and no more than that.
func TestSendTheMost(t *testing.T) {
	w := api.Works{Carriers: []api.Carrier{{}, {Outlets: []api.Outlet{{ID: 1, Into: -1, Passes: []int{api.MaxFlow}, Leak: span(0, api.MaxFlow), Loss: span(0, 1)}}}}}
	s := api.Water{River: []int{3, 0}, Boards: []int{0}, Leaks: []int{api.MaxFlow}, Losses: []int{0}}
	n, e := carrier.Send(w, s, 1, api.MaxFlow)
	if n != api.MaxFlow || e != api.OK {
		t.Error(n, e)
	}
	s.Losses[0] = 1
	n, e = carrier.Send(w, s, 1, api.MaxFlow)
	if n != 0 || e != api.ErrNone {
		t.Error(n, e)
	}
	n, e = carrier.Send(w, s, 1, api.MaxFlow-1)
	if n != api.MaxFlow || e != api.OK {
		t.Error(n, e)
	}
}

// P2.14: opening an outlet gives no less to it and to what it feeds, and no more to those behind it.
func TestOpening(t *testing.T) {
	r := chance(5)
	for range 400 {
		w := anyWorks(r, 4, 8, 4, 9, 3)
		s := anyWater(r, w, all(w, span(0, 60)))
		before := flow(t, w, s)
		for i, x := range sites(w) {
			if s.Boards[i]+1 == len(x.o.Passes) {
				continue
			}
			y := copyWater(s)
			y.Boards[i]++
			after := flow(t, w, y)
			for j, z := range sites(w) {
				switch {
				case j == i, x.o.Into == z.carrier && z.nth == 0:
					if after[j] < before[j] {
						t.Fatal("less", w, s, i, j)
					}
				case z.carrier == x.carrier && z.nth > x.nth:
					if after[j] > before[j] {
						t.Fatal("more", w, s, i, j)
					}
				case z.carrier == x.carrier:
					if after[j] != before[j] {
						t.Fatal("ahead", w, s, i, j)
					}
				}
			}
		}
	}
}

// P2.9, P2.15: what a course gives is the sum of its runs, cut or not.
func TestDrunk(t *testing.T) {
	r := chance(6)
	for range 200 {
		w := anyWorks(r, 4, 10, 3, 9, 3)
		var l, cut []api.Run
		sums := make([]int, len(sites(w)))
		for range r.IntN(8) {
			s := anyWater(r, w, all(w, span(0, 60)))
			n := 2 + r.IntN(1000)
			l = append(l, api.Run{Minutes: n, Water: s})
			k := 1 + r.IntN(n-1)
			cut = append(cut, api.Run{Minutes: k, Water: s}, api.Run{Minutes: n - k, Water: s})
			for i, f := range flow(t, w, s) {
				sums[i] += n * f
			}
		}
		for _, runs := range [][]api.Run{l, cut} {
			if x, e := carrier.Drunk(w, runs); e != api.OK || !slices.Equal(x, sums) {
				t.Fatal(w, runs, x, e)
			}
		}
	}
}

// P2.9: the greatest sum.
func TestDrunkMost(t *testing.T) {
	w := api.Works{Carriers: []api.Carrier{{Outlets: []api.Outlet{{ID: 1, Into: -1, Passes: []int{api.MaxFlow}}}}}}
	s := api.Water{River: []int{api.MaxFlow}, Boards: []int{0}, Leaks: []int{0}, Losses: []int{0}}
	l, e := carrier.Drunk(w, slices.Repeat([]api.Run{{Minutes: api.MaxMinute, Water: s}}, api.MaxCourse))
	if e != api.OK || !slices.Equal(l, []int{api.MaxCourse << 40}) {
		t.Error(l, e)
	}
}
