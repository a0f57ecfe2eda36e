package leaves

import (
	"slices"

	"drowner/api"
)

// isFrom reports whether a number is from one to another one.
func isFrom(lo, hi, n int) bool { return lo <= n && n <= hi }

func isWord(n int) bool { return isFrom(0, api.Prime-1, n) }

func areWords(l []int) bool {
	return !slices.ContainsFunc(l, func(n int) bool { return !isWord(n) })
}

// each returns what a function tells of so many numbers, from 0 on.
func each[T any](count int, of func(n int) T) []T {
	l := make([]T, 0, count)
	for n := range count {
		l = append(l, of(n))
	}
	return l
}

// sum returns the sum of what a function tells of some things, as a word.
func sum[T any](l []T, of func(x T) int) int {
	n := 0
	for _, x := range l {
		n = (n + of(x)) % api.Prime
	}
	return n
}

// powers returns a function that tells the powers of a word, one with each call, from the power 0 on.
func powers(x int) func() int {
	next := 1
	return func() int {
		now := next
		next = now * x % api.Prime
		return now
	}
}

// firstPowers returns so many powers of a word.
func firstPowers(x, count int) []int {
	power := powers(x)
	return each(count, func(int) int { return power() })
}

// value returns the value of a polynomial at a word.
func value(c []int, x int) int {
	power := powers(x)
	return sum(c, func(n int) int { return n * power() })
}

// times returns words, each times another one.
func times(l []int, by int) []int {
	return each(len(l), func(n int) int { return l[n] * by % api.Prime })
}

// inverse returns the word whose product with a word, which is not 0, is 1. This is its power Prime - 2, as its power Prime - 1 is 1.
func inverse(n int) int {
	p := 1
	for k := api.Prime - 2; k > 0; k /= 2 {
		if k%2 == 1 {
			p = p * n % api.Prime
		}
		n = n * n % api.Prime
	}
	return p
}
