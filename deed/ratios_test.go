package deed_test

import (
	"math/big"
	"testing"

	"drowner/api"
	"drowner/deed"
)

// isShare reports whether a ratio is a share, by the terms of the chapter.
func isShare(r api.Ratio) bool {
	if r.Den < 1 || r.Den > api.MaxDen || r.Num < 0 || r.Num > r.Den {
		return false
	}
	return ratioOf(rat(r)) == r
}

// P5.8: all ratios of small numbers, and some of great ones.
func TestAddAndLess(t *testing.T) {
	var all []api.Ratio
	for den := -2; den <= 9; den++ {
		for num := -2; num <= 10; num++ {
			all = append(all, ratio(num, den))
		}
	}
	far, low, top := 1<<63-1, -1<<63, api.MaxDen
	for _, n := range []int{far, low, top, top - 1, top - 3, top + 1, 1 << 32, top / 2, 3 << 20} {
		all = append(all, ratio(0, n), ratio(1, n), ratio(n, n), ratio(n, 1), ratio(n-1, n), ratio(n+1, n), ratio(3, n), ratio(n/2, n), ratio(n/2+1, n), ratio(n, 0), ratio(n, top), ratio(n-5, top))
	}
	for _, a := range all {
		for _, b := range all {
			sum, e := deed.Add(a, b)
			less, f := deed.Less(a, b)
			if !isShare(a) || !isShare(b) {
				if e != api.ErrArg || f != api.ErrArg || less || sum != ratio(0, 0) {
					t.Fatal(a, b, sum, e, less, f)
				}
				continue
			}
			if f != api.OK || less != (rat(a).Cmp(rat(b)) < 0) {
				t.Fatal(a, b, less, f)
			}
			exact := new(big.Rat).Add(rat(a), rat(b))
			if tooFine(exact) || exact.Cmp(big.NewRat(1, 1)) > 0 {
				if e != api.ErrRange || sum != ratio(0, 0) {
					t.Fatal(a, b, sum, e)
				}
			} else if e != api.OK || sum != ratioOf(exact) {
				t.Fatal(a, b, sum, e)
			}
		}
	}
}

func TestAddExamples(t *testing.T) {
	top := api.MaxDen
	for _, x := range []struct {
		a, b, sum api.Ratio
		e         api.Errno
	}{
		{ratio(0, 1), ratio(0, 1), ratio(0, 1), api.OK}, {ratio(1, 1), ratio(0, 1), ratio(1, 1), api.OK}, {ratio(1, 1), ratio(1, 1), ratio(0, 0), api.ErrRange}, {ratio(1, 6), ratio(1, 3), ratio(1, 2), api.OK},
		{ratio(1, top), ratio(top-1, top), ratio(1, 1), api.OK}, {ratio(1, top), ratio(1, top), ratio(1, top/2), api.OK}, {ratio(3, top), ratio(top-1, top), ratio(0, 0), api.ErrRange}, {ratio(1, top), ratio(1, top-1), ratio(0, 0), api.ErrRange},
		{ratio(1, 4096), ratio(1, 4095), ratio(8191, 4096*4095), api.OK}, {ratio(1, 4096), ratio(1, 4097), ratio(0, 0), api.ErrRange},
	} {
		if sum, e := deed.Add(x.a, x.b); sum != x.sum || e != x.e {
			t.Error(x, sum, e)
		}
	}
}
