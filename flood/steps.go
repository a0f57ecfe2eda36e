package flood

import (
	"iter"

	"drowner/api"
)

// lastOf returns the last step of a curve.
func lastOf(c api.Curve) int { return len(c.V) - 1 }

// drawn returns the curve up to a last step whose numbers a function tells.
func drawn(last int, at func(step int) int) api.Curve {
	var v [api.MaxStep4 + 1]int
	for t := range last + 1 {
		v[t] = at(t)
	}
	return upTo(api.Curve{V: v[:]}, last)
}

// upTo returns a curve up to a step. It shares the curve's memory up to there, and none behind it.
func upTo(c api.Curve, step int) api.Curve {
	return api.Curve{V: c.V[: step+1 : step+1]}
}

// stepwise returns what a function makes of the numbers of two curves, step by step.
func stepwise(f, g api.Curve, of func(a, b int) int) api.Curve {
	return drawn(lastOf(f), func(t int) int { return of(f.V[t], g.V[t]) })
}

// sums yields, for each way to divide steps in two, how many of them are ahead, from some number on, and the sum of a curve for these and of another one for the others.
func sums(f, g api.Curve, from, steps int) iter.Seq2[int, int] {
	return func(yield func(int, int) bool) {
		for s := from; s <= steps; s++ {
			if !yield(s, f.V[s]+g.V[steps-s]) {
				return
			}
		}
	}
}

// best returns the first one of some numbers than which none is better, with its step; zeros if there are none.
func best(l iter.Seq2[int, int], better func(a, b int) bool) (step, number int) {
	found := false
	for s, n := range l {
		if !found || better(n, number) {
			step, number, found = s, n, true
		}
	}
	return step, number
}

// least returns the least one of some numbers, with the first step that has it.
func least(l iter.Seq2[int, int]) (step, number int) {
	return best(l, func(a, b int) bool { return a < b })
}

// greatest returns the greatest one of some numbers, with the first step that has it.
func greatest(l iter.Seq2[int, int]) (step, number int) {
	return best(l, func(a, b int) bool { return a > b })
}

// first returns the first step at which two lists are as a function says, or how many steps there are if they never are.
func first[T any](f, g []T, is func(a, b T) bool) int {
	for t, n := range f {
		if is(n, g[t]) {
			return t
		}
	}
	return len(f)
}

// firstAbove returns the first step at which a list is greater than another one, or how many steps there are if it never is.
func firstAbove(f, g []int) int {
	return first(f, g, func(a, b int) bool { return a > b })
}
