package deed

import (
	"iter"
	"strconv"
	"strings"

	"drowner/api"
)

// The kinds of tokens.
const (
	wrongToken  = iota // an error; nothing comes behind it
	endToken           // behind the last token
	wordToken          // a name, or a reserved word
	numberToken        // a number up to the last day
	markToken          // a comma, or a semicolon
)

// token is a token, and where it begins.
type token struct {
	kind, at int
	text     string
	number   int
}

// tokens yields the tokens of a source, then its end, or the first error of a token.
func tokens(source string) iter.Seq[token] {
	return func(yield func(token) bool) {
		at := 0
		for at < len(source) {
			if isBlank(source[at]) {
				at++
				continue
			}
			t := tokenAt(source, at)
			if !yield(t) || t.kind == wrongToken {
				return
			}
			at += len(t.text)
		}
		yield(token{kind: endToken, at: at})
	}
}

// tokenAt returns the token that begins at a byte, which is not blank.
func tokenAt(source string, at int) token {
	rest := source[at:]
	if c := rest[0]; c == ',' || c == ';' {
		return token{kind: markToken, at: at, text: rest[:1]}
	}
	if at > 0 && (isLetter(source[at-1]) || isDigit(source[at-1])) {
		return token{kind: wrongToken, at: at}
	}
	if word := run(rest, isLetter); word != "" && len(word) <= api.MaxName {
		return token{kind: wordToken, at: at, text: word}
	}
	// What is no word is a number, or wrong: a word that is too long, or another byte, has no digits here.
	digits := run(rest, isDigit)
	if strings.HasPrefix(digits, "0") {
		digits = "0"
	}
	n, err := strconv.Atoi(digits)
	if err != nil || n > api.MaxDay {
		return token{kind: wrongToken, at: at}
	}
	return token{kind: numberToken, at: at, text: digits, number: n}
}

// run returns as many bytes from the beginning of a text as are of a sort.
func run(text string, is func(byte) bool) string {
	n := 0
	for n < len(text) && is(text[n]) {
		n++
	}
	return text[:n]
}

func isBlank(c byte) bool { return c == ' ' || c == '\t' || c == '\n' }

func isLetter(c byte) bool { return c >= 'a' && c <= 'z' }

func isDigit(c byte) bool { return c >= '0' && c <= '9' }
