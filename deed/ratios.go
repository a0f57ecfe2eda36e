package deed

import "drowner/api"

// Add returns the ratio that is the sum of two.
func Add(a, b api.Ratio) (api.Ratio, api.Errno) {
	if !isShare(a) || !isShare(b) {
		return api.Ratio{}, api.ErrArg
	}
	sum := lowest(a.Num*b.Den+b.Num*a.Den, a.Den*b.Den)
	if !isShare(sum) {
		return api.Ratio{}, api.ErrRange
	}
	return sum, api.OK
}

// Less reports whether a ratio is less than another one.
func Less(a, b api.Ratio) (bool, api.Errno) {
	if !isShare(a) || !isShare(b) {
		return false, api.ErrArg
	}
	return less(a, b), api.OK
}

func less(a, b api.Ratio) bool { return a.Num*b.Den < b.Num*a.Den }

// isShare reports whether a ratio is from 0 to 1, and neither finer than it may be nor to be reduced.
func isShare(r api.Ratio) bool {
	return r.Den >= 1 && r.Den <= api.MaxDen && r.Num >= 0 && r.Num <= r.Den && divisor(r.Num, r.Den) == 1
}

func isPoint(r api.Ratio) bool { return isShare(r) && r.Num < r.Den }

// way returns how long it is from one point to another one.
func way(from, to api.Ratio) api.Ratio {
	return lowest(to.Num*from.Den-from.Num*to.Den, from.Den*to.Den)
}

// along returns the point that lies behind so many of some equal steps from one point to another one. As there are at most 800 steps, no number on the way exceeds 2^58.
func along(from, to api.Ratio, steps, of int) api.Ratio {
	start := from.Num * to.Den * of
	gone := (to.Num*from.Den - from.Num*to.Den) * steps
	return lowest(start+gone, from.Den*to.Den*of)
}

// lowest returns a ratio in lowest terms.
func lowest(num, den int) api.Ratio {
	d := divisor(num, den)
	return api.Ratio{Num: num / d, Den: den / d}
}

// divisor returns the greatest common divisor of two numbers, of which at least one is not 0.
func divisor(a, b int) int {
	for b != 0 {
		a, b = b, a%b
	}
	return a
}
