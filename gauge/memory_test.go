package gauge_test

import (
	"slices"
	"testing"

	"drowner/api"
	"drowner/gauge"
)

// Arguments are neither modified nor kept, and results are new memory (R6).

// roomy returns a well with room behind its lists, in which there is much to sort.
func roomy() api.Well {
	w := pegged()
	w.Looks[0], w.Looks[2] = w.Looks[2], w.Looks[0]
	w.Pegs = append(w.Pegs, api.Peg{ID: 9, Minute: 3, Span: span(0, 100)})
	w.Gauges = append(make([]api.Gauge, 0, 9), w.Gauges...)
	w.Looks = append(make([]api.Look, 0, 40), w.Looks...)
	w.Pegs = append(make([]api.Peg, 0, 40), w.Pegs...)
	return w
}

func isZero[T comparable](x T) bool {
	var zero T
	return x == zero
}

func isClean[T comparable](l []T) bool {
	return !slices.ContainsFunc(l[:cap(l)][len(l):], func(x T) bool { return !isZero(x) })
}

func TestArgumentsStay(t *testing.T) {
	w := roomy()
	for _, f := range calls() {
		for _, minute := range []int{0, 15, 99} {
			f.do(w, minute)
			if !sameWell(w, roomy()) || !isClean(w.Gauges) || !isClean(w.Looks) || !isClean(w.Pegs) {
				t.Fatal(f.name, w)
			}
		}
	}
	a, _ := gauge.Asked(w, 15, span(1, 2))
	ids := []int{9, 1, 9}
	gauge.Without(w, ids)
	x, _ := gauge.Find(w)
	gauge.CheckTale(w, x)
	r, _ := gauge.Of(w, 15)
	b, c := copyOf(r.Below), copyOf(r.Above)
	gauge.CheckRange(w, 15, r)
	if !sameStands(r.Below, b) || !sameStands(r.Above, c) || !slices.Equal(ids, []int{9, 1, 9}) || !sameWell(w, roomy()) || !isClean(w.Pegs) || len(a.Pegs) != 3 {
		t.Error(w, r)
	}
}

func spoil(w api.Well) {
	for i := range w.Gauges {
		w.Gauges[i].Error = 49
	}
	for i := range w.Looks {
		w.Looks[i].Shown = 1
	}
	for i := range w.Pegs {
		w.Pegs[i].Minute = 77
	}
}

func TestResultsAreNew(t *testing.T) {
	w := roomy()
	a, _ := gauge.Asked(w, 15, span(1, 2))
	spoil(a)
	b, _ := gauge.Without(w, []int{9})
	spoil(b)
	b, _ = gauge.Without(w, nil)
	spoil(b)
	if !sameWell(w, roomy()) {
		t.Error(w)
	}
	v := broad()
	v.Pegs = nil
	l, _ := gauge.Reach(v)
	same, _ := gauge.Reach(v)
	first := l[5][0]
	for i, x := range l {
		for j := range x {
			x[j].Runs[0] = 7 // each stand has Runs and Levels of its own
			x[j].Levels[0].Lo = -1
			_ = append(x[j].Runs, 8)
			_ = append(x[j].Levels, span(7, 8))
			if next := (j + 1) % len(x); next > j && (x[next].Runs[0] == 7 || x[next].Levels[0].Lo == -1) {
				t.Error(i, j, x[next])
			}
		}
	}
	if again, _ := gauge.Reach(v); !sameStands(again, same) || first.Runs[0] != 7 {
		t.Error(again)
	}
	r, _ := gauge.Of(w, 20)
	low := slices.Clone(r.Low.Levels)
	for i := range r.High.Levels {
		r.High.Levels[i] = -5
	}
	for i := range r.High.Stuck {
		r.High.Stuck[i] = -5
	}
	if !slices.Equal(low, r.Low.Levels) || slices.Contains(r.Low.Stuck, -5) {
		t.Error(r)
	}
}

func TestLogsKeepNothing(t *testing.T) {
	w := roomy()
	l, _ := gauge.New(w)
	spoil(w)
	if !sameWell(l.Well(), roomy()) {
		t.Error("a log keeps what it was made of", l.Well())
	}
	spoil(l.Well())
	if !sameWell(l.Well(), roomy()) {
		t.Error("a log gives away its own", l.Well())
	}
	a := l.Well()
	l.Take(1)
	l.Look(api.Look{ID: 30, Gauge: 7, Minute: 50, Shown: 2})
	if !sameWell(a, roomy()) {
		t.Error("a log changes what it gave away", a)
	}
}
