package turn_test

import (
	"slices"
	"strconv"
	"strings"
	"testing"

	"drowner/api"
	"drowner/turn"
)

// anyValid returns a set with numbers of all lengths.
func anyValid(r interface{ IntN(int) int }, turns, spans int) api.Minutes {
	any := func(lo, hi int) int {
		most := 1
		for range r.IntN(8) {
			most *= 10
		}
		return min(hi, lo+r.IntN(most))
	}
	var s api.Minutes
	for range r.IntN(turns + 1) {
		p := any(1, api.MaxPeriod)
		s.Turns = append(s.Turns, api.Turn{Period: p, From: any(0, p-1), Long: any(1, p)})
	}
	for range r.IntN(spans + 1) {
		lo := any(0, api.MaxMinute)
		s.Spans = append(s.Spans, api.Span{Lo: lo, Hi: any(lo, api.MaxMinute)})
	}
	return s
}

// P1.10 and P1.16

func TestPrintParse(t *testing.T) {
	r := chance(10)
	for range 2000 {
		s := anyValid(r, api.MaxTurns, api.MaxSingle)
		var wanted strings.Builder
		for _, x := range s.Turns {
			wanted.WriteString("every " + strconv.Itoa(x.Period) + " from " + strconv.Itoa(x.From) + " for " + strconv.Itoa(x.Long) + ";\n")
		}
		for _, x := range s.Spans {
			wanted.WriteString("between " + strconv.Itoa(x.Lo) + " and " + strconv.Itoa(x.Hi) + ";\n")
		}
		text, e := turn.Print(s)
		if e != api.OK || text != wanted.String() {
			t.Fatal(s, text, e)
		}
		if u, e, at := turn.Parse(text); e != api.OK || at != 0 || !sameSet(u, s) {
			t.Fatal(text, u, e, at)
		}
	}
}

func TestPrintEdges(t *testing.T) {
	if text, e := turn.Print(api.Minutes{}); e != api.OK || text != "" {
		t.Error(text, e)
	}
	if s, e, at := turn.Parse(""); e != api.OK || at != 0 || !empty(s) {
		t.Error(s, e, at)
	}
	// Turns come in order and are not joined, nor are spans.
	s := api.Minutes{
		Turns: []api.Turn{{Period: 10, From: 2, Long: 3}, {Period: 1, From: 0, Long: 1}, {Period: 10, From: 2, Long: 3}},
		Spans: []api.Span{{Lo: 9, Hi: 9}, {Lo: 0, Hi: api.MaxMinute}, {Lo: 0, Hi: 0}},
	}
	wanted := "every 10 from 2 for 3;\nevery 1 from 0 for 1;\nevery 10 from 2 for 3;\nbetween 9 and 9;\nbetween 0 and 1048576;\nbetween 0 and 0;\n"
	if text, e := turn.Print(s); e != api.OK || text != wanted {
		t.Error(text, e)
	}
	if u, e, at := turn.Parse(wanted); e != api.OK || at != 0 || !sameSet(u, s) {
		t.Error(u, e, at)
	}
	for wanted, l := range badSets() {
		for _, s := range l {
			if text, e := turn.Print(s); e != wanted || text != "" {
				t.Error(s, text, e)
			}
		}
	}
}

// opens reports whether a text is the beginning of a text of a set. It is told part by part, and word by word.
func opens(text string) bool {
	parts := strings.Split(text, ";\n")
	spans := false
	for i, part := range parts {
		last := i == len(parts)-1
		turn := part != "" && part[0] == 'e'
		if turn && spans || part == "" && !last {
			return false
		}
		spans = spans || part != "" && !turn
		if turn && !opensPart(part, last, []string{"every", "from", "for"}, turnRange) {
			return false
		}
		if part != "" && !turn && !opensPart(part, last, []string{"between", "and"}, spanRange) {
			return false
		}
	}
	return true
}

// turnRange returns from where to where the next number of a turn may be.
func turnRange(before []int) (int, int) {
	switch len(before) {
	case 0:
		return 1, api.MaxPeriod
	case 1:
		return 0, before[0] - 1
	}
	return 1, before[0]
}

// spanRange returns from where to where the next number of a span may be.
func spanRange(before []int) (int, int) {
	if len(before) == 0 {
		return 0, api.MaxMinute
	}
	return before[0], api.MaxMinute
}

// opensPart reports whether a part is right, or, if it is the last one, the beginning of one that is.
func opensPart(part string, last bool, names []string, bounds func([]int) (int, int)) bool {
	if last && strings.HasSuffix(part, ";") { // its line feed is missing
		part, last = strings.TrimSuffix(part, ";"), false
	}
	words := strings.Split(part, " ")
	if len(words) > 2*len(names) || !last && len(words) < 2*len(names) {
		return false
	}
	var numbers []int
	for i, word := range words {
		begun := last && i == len(words)-1 // more of the word may follow
		if i%2 == 0 {
			if word != names[i/2] && !(begun && strings.HasPrefix(names[i/2], word)) {
				return false
			}
			continue
		}
		lo, hi := bounds(numbers)
		n, e := strconv.Atoi(word)
		right := e == nil && strconv.Itoa(n) == word && n >= lo && n <= hi
		if !right && !(begun && longer(word, lo, hi)) {
			return false
		}
		numbers = append(numbers, n)
	}
	return true
}

// longer reports whether some number from lo to hi begins with some digits: those with as many further digits lie between the one with zeros and the one with nines.
func longer(digits string, lo, hi int) bool {
	if strings.Trim(digits, "0123456789") != "" || len(digits) > 7 {
		return false
	}
	if digits == "" || digits[0] == '0' {
		return digits == "" || digits == "0" && lo == 0
	}
	for more := 0; len(digits)+more <= 7; more++ {
		least, _ := strconv.Atoi(digits + strings.Repeat("0", more))
		most, _ := strconv.Atoi(digits + strings.Repeat("9", more))
		if least <= hi && most >= lo {
			return true
		}
	}
	return false
}

// formIndex returns where a text stops being the beginning of one; its length if it does not.
func formIndex(text string) int {
	for i := range len(text) {
		if !opens(text[:i+1]) {
			return i
		}
	}
	return len(text)
}

// Texts that are cut, or in which a byte is another one, too much or missing, are refused where they go wrong.
func TestParseWrong(t *testing.T) {
	r := chance(11)
	bytes := "0123456789 ;\neb-+.\x00\xff\tfory"
	for range 60 {
		text, _ := turn.Print(anyValid(r, 2, 2))
		for i := range len(text) {
			c := string(bytes[r.IntN(len(bytes))])
			for _, x := range []string{text[:i], text[:i] + c + text[i+1:], text[:i] + c + text[i:], text[:i] + text[i+1:]} {
				checkParse(t, x)
			}
		}
	}
}

func checkParse(t *testing.T, text string) {
	t.Helper()
	at := formIndex(text)
	s, e, got := turn.Parse(text)
	whole := at == len(text) && (text == "" || strings.HasSuffix(text, ";\n"))
	if whole {
		again, _ := turn.Print(s)
		if e != api.OK || got != 0 || again != text {
			t.Fatalf("%q: %v %d %d", text, s, e, got)
		}
		return
	}
	if e != api.ErrForm || got != at || !empty(s) {
		t.Fatalf("%q: %v %d %d, not %d", text, s, e, got, at)
	}
}

func TestParseForm(t *testing.T) {
	for _, x := range []struct {
		text string
		at   int
	}{
		{"x", 0}, {" ", 0}, {"\n", 0}, {";\n", 0}, {"E", 0}, {"e", 1}, {"eve", 3}, {"every", 5}, {"every ", 6}, {"every  1", 6}, {"every\t1", 5},
		{"every 0", 6}, {"every 01", 6}, {"every -1", 6}, {"every +1", 6}, {"every 40320", 11}, {"every 40321", 10}, {"every 4033", 10}, {"every 5000 ", 11},
		{"every 50000", 10}, {"every 403200", 11}, {"every ;", 6}, {"every a", 6}, {"every 1  ", 8}, {"every 1;", 7}, {"every 1 for", 9},
		{"every 1 from 0", 14}, {"every 1 from 1", 13}, {"every 1 from 00", 14}, {"every 10 from 05", 15}, {"every 10 from 10 for 3;", 15},
		{"every 100 from 99 for 100", 25}, {"every 100 from 100 for 1", 17}, {"every 100 from 1 for 101", 23}, {"every 100 from 1 for 0", 21}, {"every 9 from 3 for 91", 20},
		{"every 10 from 2 for 3", 21}, {"every 10 from 2 for 3;", 22}, {"every 10 from 2 for 3; ", 22}, {"every 10 from 2 for 3\n", 21}, {"every 10 from 2 for 3;\r\n", 22},
		{"every 10 from 2 for 3;\n\n", 23}, {"every 10 from 2 for 3;\nx", 23}, {"every 10 from 2 for 3 ;\n", 21}, {"every 10 from 2 to 3", 16},
		{"between 4 and 6;", 16}, {"between 4 and 6;\nevery", 17}, {"between 4 and 6;\neve", 17}, {"between 4 and 6;\nb", 18}, {"between 4 and 6;\n ", 17},
		{"between 50 and 4;", 16}, {"between 50 and 49;", 17}, {"between 50 and 5;", 16}, {"between 50 and 0", 15}, {"between 50 and 500", 18}, {"between 0 and 0", 15}, {"between 0 and 00", 15},
		{"between 1048576 and 1048576", 27}, {"between 1048576 and 1048575", 26}, {"between 1048576 and 2", 20}, {"between 1048577", 14}, {"between 104857", 14}, {"between 1048580", 14},
		{"between 600000 and 5", 19}, {"between 600000 and 6", 20}, {"between 600000 and 104", 22}, {"between 600000 and 105", 21}, {"between 600000 and 60000;", 24},
		{"between 99 and 9", 16}, {"between 99 and 98", 17}, {"between 7 and", 13}, {"between -1", 8}, {"between 99999999999999999999", 14},
		{"every 99999999999999999999", 10}, {"every 10 from 2 for 3;\nevery 10 from 2 for 3;\nbetween 1 and 2;\nbetween 5 and 3;\n", 78},
		{"every 10 from 2 for 3;\n\xff", 23}, {"\xc3\xa9very", 0}, {"every 1\x00", 7},
	} {
		if s, e, at := turn.Parse(x.text); e != api.ErrForm || at != x.at || !empty(s) {
			t.Errorf("%q: %v %d %d, not %d", x.text, s, e, at, x.at)
		}
	}
}

func TestParseLimits(t *testing.T) {
	part, span := "every 5 from 0 for 1;\n", "between 3 and 4;\n"
	full := strings.Repeat(part, api.MaxTurns) + strings.Repeat(span, api.MaxSingle)
	if s, e, at := turn.Parse(full); e != api.OK || at != 0 || len(s.Turns) != api.MaxTurns || len(s.Spans) != api.MaxSingle {
		t.Error(s, e, at)
	}
	for _, text := range []string{part + full, full + span, strings.Repeat(part, api.MaxTurns+1), strings.Repeat(span, api.MaxSingle+1), part + full + span} {
		if s, e, at := turn.Parse(text); e != api.ErrLimit || at != 0 || !empty(s) {
			t.Error(text, s, e, at)
		}
		// The form comes ahead of the number of parts.
		if s, e, at := turn.Parse(text + "x"); e != api.ErrForm || at != len(text) || !empty(s) {
			t.Error(text, s, e, at)
		}
	}
	// The length comes ahead of the form.
	for _, c := range []string{"x", " ", part, span} {
		text := strings.Repeat(c, api.MaxText1/len(c)+1)
		if s, e, at := turn.Parse(text); e != api.ErrLimit || at != 0 || !empty(s) {
			t.Error(len(text), s, e, at)
		}
	}
	if s, e, at := turn.Parse(strings.Repeat("x", api.MaxText1)); e != api.ErrForm || at != 0 || !empty(s) {
		t.Error(s, e, at)
	}
	long := full + strings.Repeat(span, (api.MaxText1-len(full))/len(span))
	long += "between 0 and 0;\n"[:api.MaxText1-len(long)]
	if s, e, at := turn.Parse(long); len(long) != api.MaxText1 || e != api.ErrForm || at != len(long) || !empty(s) {
		t.Error(len(long), s, e, at)
	}
	if s, e, at := turn.Parse(long + "n"); e != api.ErrLimit || at != 0 || !empty(s) {
		t.Error(s, e, at)
	}
}

// The greatest set has a text that Parse takes.
func TestLongestText(t *testing.T) {
	s := api.Minutes{
		Turns: slices.Repeat([]api.Turn{{Period: api.MaxPeriod, From: api.MaxPeriod - 1, Long: api.MaxPeriod}}, api.MaxTurns),
		Spans: slices.Repeat([]api.Span{{Lo: api.MaxMinute, Hi: api.MaxMinute}}, api.MaxSingle),
	}
	text, e := turn.Print(s)
	if e != api.OK {
		t.Fatal(e)
	}
	if u, e, at := turn.Parse(text); e != api.OK || at != 0 || !sameSet(u, s) {
		t.Error(u, e, at)
	}
}
