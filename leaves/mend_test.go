package leaves_test

import (
	"slices"
	"testing"

	"drowner/api"
	"drowner/leaves"
)

// mends fails a test unless Mend, Spare and CheckMend say of leaves what is wanted.
func mends(t *testing.T, s api.Shape, l []api.Leaf, m api.Mended, e api.Errno) {
	t.Helper()
	n := 0
	if e == api.OK {
		n = len(l) - s.Data - 2*len(m.Wrong)
	}
	if got, f := leaves.Mend(s, l); !sameMended(got, m) || f != e {
		t.Fatal("Mend", s, l, got, f, m, e)
	}
	if got, f := leaves.Spare(s, l); got != n || f != e {
		t.Fatal("Spare", s, l, got, f, n, e)
	}
	proof := api.OK
	if e != api.OK { // no data are right
		m, proof = api.Mended{Data: laid(s)}, api.ErrProof
	}
	if f := leaves.CheckMend(s, l, m); f != proof {
		t.Fatal("CheckMend", s, l, m, f, proof)
	}
}

// P9.3: the chapter's examples, and the edges of what can be mended.
func TestMendExamples(t *testing.T) {
	all := []api.Leaf{leaf(1, 5), leaf(2, 8), leaf(3, 11), leaf(4, 14)}
	bad := []api.Leaf{leaf(1, 5), leaf(2, 9), leaf(3, 11), leaf(4, 14)}
	none := api.Mended{}
	good := api.Mended{Data: rows(5, 8)}
	wrong := func(l ...int) api.Mended { return api.Mended{Data: rows(5, 8), Wrong: l} }
	of := func(l ...api.Leaf) []api.Leaf { return l }
	wide, deep := shape(2, 2, 2), shape(2, 4, 2)
	for _, x := range []struct {
		s api.Shape
		l []api.Leaf
		m api.Mended
		e api.Errno
	}{
		{example(), all[2:], good, api.OK},
		{example(), all, good, api.OK},
		{example(), of(all[3], all[0]), good, api.OK},
		{example(), bad, wrong(2), api.OK},
		{example(), bad[:3], none, api.ErrClash},
		{example(), bad[:2], api.Mended{Data: rows(5, 9)}, api.OK},
		{example(), all[:1], none, api.ErrNone},
		{example(), nil, none, api.ErrNone},
		{example(), of(leaf(1, 6), leaf(2, 9), leaf(3, 11), leaf(4, 14)), none, api.ErrClash},
		{example(), of(leaf(4, 0), leaf(3, 11), leaf(2, 8), leaf(1, 5)), wrong(4), api.OK},
		{shape(2, 3, 1), of(leaf(1, 5), leaf(2, 9), leaf(3, 11), leaf(4, 14), leaf(5, 17)), wrong(2), api.OK},
		{shape(2, 4, 1), of(leaf(6, 3), leaf(4, 14), leaf(2, 9), leaf(1, 5), leaf(3, 11), leaf(5, 17)), wrong(2, 6), api.OK},
		{shape(1, 0, 2), of(leaf(1, 4, 4)), api.Mended{Data: [][]int{{4, 4}}}, api.OK},
		{shape(1, 2, 1), of(leaf(1, 4), leaf(2, 4), leaf(3, 5)), api.Mended{Data: rows(4), Wrong: []int{3}}, api.OK},
		{shape(1, 2, 1), of(leaf(1, 4), leaf(2, 6), leaf(3, 5)), none, api.ErrClash},
		{shape(1, 1, 1), of(leaf(1, 4), leaf(2, 6)), none, api.ErrClash},
		// Each place has one wrong word, but there are two wrong leaves.
		{wide, of(leaf(1, 6, 5), leaf(2, 8, 9), leaf(3, 11, 11), leaf(4, 14, 14)), none, api.ErrClash},
		{deep, of(leaf(1, 6, 5), leaf(2, 8, 9), leaf(3, 11, 11), leaf(4, 14, 14), leaf(5, 17, 17), leaf(6, 20, 20)), api.Mended{Data: [][]int{{5, 5}, {8, 8}}, Wrong: []int{1, 2}}, api.OK},
		// Two wrong words of one leaf make one wrong leaf.
		{wide, of(leaf(1, 6, 4), leaf(2, 8, 8), leaf(3, 11, 11), leaf(4, 14, 14)), api.Mended{Data: [][]int{{5, 5}, {8, 8}}, Wrong: []int{1}}, api.OK},
		// One place is all right, the other one cannot be mended.
		{wide, of(leaf(1, 5, 1), leaf(2, 8, 8), leaf(3, 11, 1), leaf(4, 14, 14)), none, api.ErrClash},
		{wide, of(leaf(1, 1, 5), leaf(2, 8, 8), leaf(3, 1, 11), leaf(4, 14, 14)), none, api.ErrClash},
	} {
		mends(t, x.s, x.l, x.m, x.e)
	}
}

// P9.3, against the definition: leaves of small books of which any are torn, and any wrong.
func TestMend(t *testing.T) {
	r := chance(4)
	count := map[api.Errno]int{}
	for range 1500 {
		s := anyShape(r, 4, 5, 3)
		all := wholeOf(s, anyData(r, s))
		l := some(r, all, r.IntN(len(all)+1))
		l, _ = spoiled(r, l, r.IntN(len(l)+1)*r.IntN(2))
		if len(l) > 3 && r.IntN(3) == 0 { // leaves of another book that has one leaf with this one in common
			other := copyRows(anyData(r, s))
			l[0] = wholeOf(s, other)[l[0].Number-1]
		}
		m, e := mendOf(t, s, l)
		mends(t, s, l, m, e)
		count[e] += 1 + len(m.Wrong)
	}
	if count[api.OK] < 500 || count[api.ErrNone] < 100 || count[api.ErrClash] < 200 {
		t.Error("only", count)
	}
}

// P9.3: words from 0 to 2 alone, so that many leaves are right by chance, and data that were not written are those of leaves.
func TestMendByChance(t *testing.T) {
	r := chance(5)
	others := 0
	for range 1500 {
		s := anyShape(r, 3, 5, 2)
		all := wholeOf(s, laid(s))
		l := some(r, all, s.Data+r.IntN(s.Checks+1))
		for _, x := range l {
			for j := range x.Words {
				x.Words[j] = max(0, r.IntN(5)-3)
			}
		}
		m, e := mendOf(t, s, l)
		mends(t, s, l, m, e)
		if e == api.OK && len(m.Wrong) > 0 {
			others++
		}
	}
	if others < 200 {
		t.Error("only", others)
	}
}

// P9.9, P9.10: great books, up to the last leaf that can be torn or wrong.
func TestMendLarge(t *testing.T) {
	r := chance(6)
	for i := range 150 {
		s := anyShape(r, 20, 20, 32)
		if i%3 == 0 {
			s = greatest()
		}
		data := anyData(r, s)
		all := wholeOf(s, data)
		l := some(r, all, s.Data+r.IntN(s.Checks+1))
		if i%2 == 0 {
			l = mixed(r, all)
		}
		most := (len(l) - s.Data) / 2
		wrong := most
		if i%5 == 0 {
			wrong = r.IntN(most + 1)
		}
		bad, numbers := spoiled(r, l, wrong)
		mends(t, s, bad, api.Mended{Data: data, Wrong: numbers}, api.OK)
		if len(l) > s.Data { // with one more there are no data, but for great chance
			bad, _ = spoiled(r, l, most+1)
			mends(t, s, bad, api.Mended{}, api.ErrClash)
		}
		if s.Data > 1 {
			mends(t, s, l[:s.Data-1], api.Mended{}, api.ErrNone)
		}
	}
}

// P9.9: any leaves, as many as Data, of which none is wrong, are enough.
func TestAnyLeaves(t *testing.T) {
	r := chance(7)
	for _, s := range []api.Shape{shape(1, 5, 2), shape(3, 4, 2), shape(4, 4, 1), shape(5, 1, 3), shape(6, 0, 1)} {
		data := anyData(r, s)
		for _, l := range choices(wholeOf(s, data), s.Data) {
			mends(t, s, l, api.Mended{Data: data}, api.OK)
			mends(t, s, mixed(r, l), api.Mended{Data: data}, api.OK)
		}
	}
}

// P9.10: with a further leaf that is not wrong nothing changes but Spare, which is greater by 1; as many leaves as Spare can be torn, whichever they are.
func TestSpare(t *testing.T) {
	r := chance(8)
	torn := 0
	for range 150 {
		s := anyShape(r, 4, 6, 2)
		data := anyData(r, s)
		all := wholeOf(s, data)
		count := s.Data + r.IntN(s.Checks+1)
		l := mixed(r, all)
		here, there := l[:count], l[count:]
		bad, numbers := spoiled(r, here, r.IntN((count-s.Data)/2+1))
		spare, e := leaves.Spare(s, bad)
		if spare != count-s.Data-2*len(numbers) || e != api.OK {
			t.Fatal(s, bad, spare, e)
		}
		for i := range there {
			more := slices.Concat(there[:i+1], bad)
			mends(t, s, more, api.Mended{Data: data, Wrong: numbers}, api.OK)
			if n, e := leaves.Spare(s, more); n != spare+i+1 || e != api.OK {
				t.Fatal(s, more, n, spare, e)
			}
		}
		for _, left := range choices(bad, count-spare) {
			m, e := leaves.Mend(s, left)
			if !sameRows(m.Data, data) || e != api.OK {
				t.Fatal(s, bad, left, m, e)
			}
			torn++
		}
	}
	if torn < 500 {
		t.Error("only", torn)
	}
}

// P9.3, P9.10: CheckMend accepts nothing else, and nothing at all if Mend has an error.
func TestCheckMend(t *testing.T) {
	s := shape(2, 4, 2)
	all := wholeOf(s, [][]int{{5, 1}, {8, 1}})
	bad := copyLeaves(all)
	bad[1].Words[1], bad[4].Words[0] = 2, 0
	one, two := []int{5, 1}, []int{8, 1}
	for _, x := range []struct {
		name string
		l    []api.Leaf
		m    api.Mended
		want api.Errno
	}{
		{"right", bad, api.Mended{Data: [][]int{one, two}, Wrong: []int{2, 5}}, api.OK},
		{"none wrong", all, api.Mended{Data: [][]int{one, two}}, api.OK},
		{"none wrong, in memory", all, api.Mended{Data: [][]int{one, two}, Wrong: []int{}}, api.OK},
		{"in another order", bad, api.Mended{Data: [][]int{one, two}, Wrong: []int{5, 2}}, api.ErrProof},
		{"too few", bad, api.Mended{Data: [][]int{one, two}, Wrong: []int{2}}, api.ErrProof},
		{"nothing", bad, api.Mended{Data: [][]int{one, two}}, api.ErrProof},
		{"one that is right", bad, api.Mended{Data: [][]int{one, two}, Wrong: []int{2, 3, 5}}, api.ErrProof},
		{"one twice", bad, api.Mended{Data: [][]int{one, two}, Wrong: []int{2, 2, 5}}, api.ErrProof},
		{"no leaf", bad, api.Mended{Data: [][]int{one, two}, Wrong: []int{2, 5, 7}}, api.ErrProof},
		{"one torn", bad[:5], api.Mended{Data: [][]int{one, two}, Wrong: []int{2, 5}}, api.ErrProof},
		{"one that is torn", all[1:], api.Mended{Data: [][]int{one, two}, Wrong: []int{1}}, api.ErrProof},
		{"too few leaves", all[:1], api.Mended{Data: [][]int{one, two}}, api.ErrProof},
		{"no leaves", nil, api.Mended{Data: [][]int{one, two}}, api.ErrProof},
		{"no leaves and no data", nil, api.Mended{}, api.ErrProof},
		{"no data", all, api.Mended{}, api.ErrProof},
		{"other data", all, api.Mended{Data: [][]int{two, one}}, api.ErrProof},
		{"other data, and what is wrong for them", all, api.Mended{Data: [][]int{one, {8, 2}}, Wrong: []int{2, 3, 4, 5, 6}}, api.ErrProof},
		{"a list less", all, api.Mended{Data: [][]int{one}}, api.ErrProof},
		{"a list more", all, api.Mended{Data: [][]int{one, two, {11, 1}}}, api.ErrProof},
		{"an empty list more", all, api.Mended{Data: [][]int{one, two, {}}}, api.ErrProof},
		{"a word less", all, api.Mended{Data: [][]int{one, {8}}}, api.ErrProof},
		{"a word more", all, api.Mended{Data: [][]int{one, {8, 1, 0}}}, api.ErrProof},
		{"no word", all, api.Mended{Data: [][]int{one, {8 + prime, 1}}}, api.ErrProof},
		{"no word, less than 0", all, api.Mended{Data: [][]int{{5 - prime, 1}, two}}, api.ErrProof},
	} {
		want(t, x.name, leaves.CheckMend(s, x.l, x.m), x.want)
	}
}

// P9.10: what CheckMend accepts is what Mend returns, whatever is asked.
func TestCheckMendAccepts(t *testing.T) {
	r := chance(9)
	accepted := 0
	for range 6000 {
		s := anyShape(r, 3, 4, 2)
		data := anyData(r, s)
		all := wholeOf(s, data)
		l := some(r, all, r.IntN(len(all)+1))
		l, numbers := spoiled(r, l, r.IntN(min(len(l), 2)+1))
		m := api.Mended{Data: data, Wrong: numbers}
		switch r.IntN(6) {
		case 0:
			m.Data[r.IntN(s.Data)][r.IntN(s.Width)] = anyWord(r)
		case 1:
			m.Wrong = append(m.Wrong, 1+r.IntN(len(all)))
		case 2:
			m.Data = anyData(r, s)
			m.Wrong = wrongOf(s, l, m.Data)
		}
		right, e := leaves.Mend(s, l)
		is := e == api.OK && sameMended(m, right)
		if f := leaves.CheckMend(s, l, m); (f == api.OK) != is || f != api.OK && f != api.ErrProof {
			t.Fatal(s, l, m, f, right, e)
		}
		if is {
			accepted++
		}
	}
	if accepted < 500 {
		t.Error("only", accepted)
	}
}
