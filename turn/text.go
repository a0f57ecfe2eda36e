package turn

import (
	"strconv"
	"strings"

	"drowner/api"
)

// The words of a text, with what stands between them and the numbers.
const (
	wordEvery   = "every "
	wordFrom    = " from "
	wordFor     = " for "
	wordBetween = "between "
	wordAnd     = " and "
	wordEnd     = ";\n"
)

// Print returns the text of a set.
func Print(s api.Minutes) (string, api.Errno) {
	if e := Check(s); e != api.OK {
		return "", e
	}
	var text strings.Builder
	put := func(word string, n int) {
		text.WriteString(word)
		text.WriteString(strconv.Itoa(n))
	}
	for _, t := range s.Turns {
		put(wordEvery, t.Period)
		put(wordFrom, t.From)
		put(wordFor, t.Long)
		text.WriteString(wordEnd)
	}
	for _, x := range s.Spans {
		put(wordBetween, x.Lo)
		put(wordAnd, x.Hi)
		text.WriteString(wordEnd)
	}
	return text.String(), api.OK
}

// Parse returns the set of a text, or an error and where it lies.
func Parse(text string) (api.Minutes, api.Errno, int) {
	if len(text) > api.MaxText1 {
		return api.Minutes{}, api.ErrLimit, 0
	}
	at := 0
	r := reader{take: func(fits func(c byte) bool) bool {
		if at == len(text) || !fits(text[at]) {
			return false
		}
		at++
		return true
	}}
	var s api.Minutes
	for at < len(text) {
		if text[at] == wordEvery[0] && len(s.Spans) == 0 {
			s.Turns = append(s.Turns, r.turn())
		} else {
			s.Spans = append(s.Spans, r.span())
		}
		if r.failed {
			return api.Minutes{}, api.ErrForm, at
		}
	}
	if e := Check(s); e != api.OK {
		return api.Minutes{}, e, 0
	}
	return s, api.OK, 0
}

// reader reads words and numbers. It stops for good at the first byte that cannot stand where it does.
type reader struct {
	take   func(fits func(c byte) bool) bool // takes the next byte, if there is one that fits
	failed bool
}

// turn reads the part of a turn.
func (r *reader) turn() api.Turn {
	var t api.Turn
	r.word(wordEvery)
	t.Period = r.number(1, api.MaxPeriod)
	r.word(wordFrom)
	t.From = r.number(0, t.Period-1)
	r.word(wordFor)
	t.Long = r.number(1, t.Period)
	r.word(wordEnd)
	return t
}

// span reads the part of a span.
func (r *reader) span() api.Span {
	var x api.Span
	r.word(wordBetween)
	x.Lo = r.number(0, api.MaxMinute)
	r.word(wordAnd)
	x.Hi = r.number(x.Lo, api.MaxMinute)
	r.word(wordEnd)
	return x
}

// word reads the bytes of a word.
func (r *reader) word(w string) {
	for i := 0; i < len(w) && !r.failed; i++ {
		r.failed = !r.take(func(c byte) bool { return c == w[i] })
	}
}

// number reads a number from lo to hi. It takes no digit with which none can begin so any more: the word behind the number stops there.
func (r *reader) number(lo, hi int) int {
	if r.failed {
		return 0
	}
	n, digits := 0, 0
	digit := func(c byte) bool {
		if c < '0' || c > '9' || digits > 0 && n == 0 {
			return false
		}
		more := n*10 + int(c-'0')
		if !begins(more, lo, hi) {
			return false
		}
		n = more
		digits++
		return true
	}
	for r.take(digit) {
	}
	r.failed = digits == 0 || n < lo
	return n
}

// begins reports whether the digits of a number are the beginning of those of a number from lo to hi.
func begins(n, lo, hi int) bool {
	if n == 0 {
		return lo == 0
	}
	for low, high := n, n; low <= hi; low, high = low*10, high*10+9 {
		if high >= lo {
			return true
		}
	}
	return false
}
