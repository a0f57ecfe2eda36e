package deed_test

import (
	"math/rand/v2"
	"regexp"
	"slices"
	"strconv"
	"strings"
	"testing"

	"drowner/api"
	"drowner/deed"
)

func reserved() []string {
	return strings.Fields("day known found for sell of to divide among lend until forfeit redeem common")
}

// oneOfEach returns a deed of each kind, all formed.
func oneOfEach() []api.Deed {
	return []api.Deed{
		{Day: 3, Known: 5, Kind: api.DdFound, Turn: "upper", To: "ann"},
		{Day: 3, Known: 3, Kind: api.DdSell, Turn: "upper", From: "ann", To: "ben"},
		{Day: 0, Known: 728, Kind: api.DdDivide, Turn: "upper", From: "ann", Among: []api.Heir{{Name: "ann", Share: 1}, {Name: "ben", Share: 100}}},
		{Day: 728, Known: 728, Kind: api.DdLend, Turn: "upper", From: "ann", To: "ben", Until: 728},
		{Day: 4, Known: 4, Kind: api.DdForfeit, Turn: "upper", From: "ann"},
		{Kind: api.DdRedeem, Turn: "upper", From: "ann"},
	}
}

// heirsOf returns so many heirs with different names.
func heirsOf(n int) []api.Heir {
	var l []api.Heir
	for i := range n {
		l = append(l, api.Heir{Name: "heir" + strings.Repeat("a", i), Share: 1 + i})
	}
	return l
}

// badNames returns texts that are no names.
func badNames() []string {
	return append(reserved(), "A", "aB", "a1", "1", "a b", "a-b", "a,", " a", "\xe9", "é", "a\x00", strings.Repeat("a", 25))
}

// P5.1: what is formed, and what is not, field by field.
func TestCheck(t *testing.T) {
	far, low := 1<<63-1, -1<<63
	for kind, d := range oneOfEach() {
		kind++
		checkForm(t, d, api.OK)
		change := func(e api.Errno, do func(d *api.Deed)) {
			t.Helper()
			x := d
			x.Among = slices.Clone(d.Among)
			do(&x)
			checkForm(t, x, e)
		}
		for _, n := range []int{-1, 729, low, far} {
			change(api.ErrForm, func(d *api.Deed) { d.Day = n })
			change(api.ErrForm, func(d *api.Deed) { d.Known = n })
			change(api.ErrForm, func(d *api.Deed) { d.Day, d.Known = n, n })
			change(api.ErrForm, func(d *api.Deed) { d.Until = n })
		}
		change(api.ErrForm, func(d *api.Deed) { d.Day, d.Known, d.Until = 7, 6, 0 })
		for _, n := range []int{0, -1, 7, low, far} {
			change(api.ErrForm, func(d *api.Deed) { d.Kind = n })
		}
		// A deed of a kind is none of another one, as none has the same fields, but for sales and loans, and what is forfeited and redeemed.
		for other := 1; other <= 6; other++ {
			if other != kind && (other < api.DdForfeit || kind < api.DdForfeit) {
				change(api.ErrForm, func(d *api.Deed) { d.Kind = other })
			}
		}
		for _, name := range append(badNames(), "") {
			change(api.ErrForm, func(d *api.Deed) { d.Turn = name })
			if name != "" || d.From != "" {
				change(api.ErrForm, func(d *api.Deed) { d.From = name })
			}
			if name != "" || d.To != "" {
				change(api.ErrForm, func(d *api.Deed) { d.To = name })
			}
		}
		change(api.OK, func(d *api.Deed) { d.Turn = strings.Repeat("z", 24) })
		change(api.OK, func(d *api.Deed) { d.Turn = "ann" }) // turns may be called as persons
		if d.From == "" {
			change(api.ErrForm, func(d *api.Deed) { d.From = "carl" })
		} else {
			change(api.OK, func(d *api.Deed) { d.From = "days" })
		}
		if d.To == "" {
			change(api.ErrForm, func(d *api.Deed) { d.To = "carl" })
		} else {
			change(api.OK, func(d *api.Deed) { d.To = "days" })
		}
		if kind != api.DdLend {
			change(api.ErrForm, func(d *api.Deed) { d.Until = d.Day + 1 })
		}
		if kind != api.DdDivide {
			change(api.OK, func(d *api.Deed) { d.Among = []api.Heir{} })
			change(api.ErrForm, func(d *api.Deed) { d.Among = heirsOf(1) })
			change(api.ErrForm, func(d *api.Deed) { d.Among = []api.Heir{{}} })
		}
	}
}

func checkForm(t *testing.T, d api.Deed, e api.Errno) {
	t.Helper()
	if got := deed.Check([]api.Deed{d}); got != e {
		t.Errorf("%+v: %d, not %d", d, got, e)
	}
	if text, got := deed.Print([]api.Deed{d}); got != e || (text == "") != (e != api.OK) {
		t.Errorf("%+v: %q %d", d, text, got)
	}
}

// P5.1: those to whom something goes.
func TestCheckOthers(t *testing.T) {
	sold, lent, divided := oneOfEach()[1], oneOfEach()[3], oneOfEach()[2]
	for _, d := range []api.Deed{sold, lent} {
		d.To = d.From
		checkForm(t, d, api.ErrForm)
	}
	for until, e := range map[int]api.Errno{-1: api.ErrForm, 0: api.ErrForm, 4: api.ErrForm, 5: api.OK, 6: api.OK, 728: api.OK, 729: api.ErrForm} {
		lent.Day, lent.Known, lent.Until = 5, 9, until
		checkForm(t, lent, e)
	}
	among := func(e api.Errno, l ...api.Heir) {
		t.Helper()
		divided.Among = l
		checkForm(t, divided, e)
	}
	for n := range 12 {
		e := api.OK
		if n < 1 || n > 8 {
			e = api.ErrForm
		}
		among(e, heirsOf(n)...)
	}
	for share, e := range map[int]api.Errno{-1: api.ErrForm, 0: api.ErrForm, 1: api.OK, 100: api.OK, 101: api.ErrForm, 1 << 62: api.ErrForm} {
		among(e, api.Heir{Name: "a", Share: share})
		among(e, api.Heir{Name: "a", Share: 1}, api.Heir{Name: "b", Share: share})
	}
	for _, name := range append(badNames(), "") {
		among(api.ErrForm, api.Heir{Name: name, Share: 1})
		among(api.ErrForm, api.Heir{Name: "b", Share: 1}, api.Heir{Name: name, Share: 1})
	}
	among(api.ErrForm, api.Heir{Name: "a", Share: 1}, api.Heir{Name: "a", Share: 2})
	among(api.ErrForm, api.Heir{Name: "a", Share: 1}, api.Heir{Name: "b", Share: 1}, api.Heir{Name: "c", Share: 1}, api.Heir{Name: "a", Share: 1})
}

// P5.1: too many deeds come ahead of one that is not formed.
func TestCheckLimit(t *testing.T) {
	good, bad := oneOfEach()[0], api.Deed{}
	for n, e := range map[int]api.Errno{0: api.OK, 1: api.OK, 60: api.OK, 61: api.ErrLimit, 200: api.ErrLimit} {
		l := slices.Repeat([]api.Deed{good}, n)
		want(t, "Check", deed.Check(l), e)
		for i := range l {
			x := slices.Clone(l)
			x[i] = bad
			if e == api.OK {
				want(t, "Check", deed.Check(x), api.ErrForm)
			} else {
				want(t, "Check", deed.Check(x), e)
			}
		}
	}
}

// textOf returns the text of deeds, token by token.
func textOf(l []api.Deed) string {
	var lines []string
	for _, d := range l {
		words := []string{"day", strconv.Itoa(d.Day)}
		add := func(w ...string) { words = append(words, w...) }
		if d.Known != d.Day {
			add("known", strconv.Itoa(d.Known))
		}
		switch d.Kind {
		case api.DdFound:
			add("found", d.Turn, "for", d.To)
		case api.DdSell:
			add("sell", d.Turn, "of", d.From, "to", d.To)
		case api.DdDivide:
			add("divide", d.Turn, "of", d.From, "among")
			for _, h := range d.Among {
				add(h.Name, strconv.Itoa(h.Share)+",")
			}
			words[len(words)-1] = strings.TrimSuffix(words[len(words)-1], ",")
		case api.DdLend:
			add("lend", d.Turn, "of", d.From, "to", d.To, "until", strconv.Itoa(d.Until))
		case api.DdForfeit:
			add("forfeit", d.Turn, "of", d.From)
		case api.DdRedeem:
			add("redeem", d.Turn, "of", d.From)
		}
		lines = append(lines, strings.Join(words, " ")+";\n")
	}
	return strings.Join(lines, "")
}

// P5.1, P5.9: texts, there and back.
func TestPrintParse(t *testing.T) {
	all := [][]api.Deed{nil, oneOfEach()}
	each(1, 600, 30, 100, func(_ *rand.Rand, l []api.Deed, _, _ int) { all = append(all, l) })
	for _, l := range all {
		text, e := deed.Print(l)
		if e != api.OK || text != textOf(l) {
			t.Fatalf("%+v\n%s%d", l, text, e)
		}
		again, e, at := deed.Parse(text)
		if e != api.OK || at != 0 || !slices.EqualFunc(l, again, same) {
			t.Fatal(text, again, e, at)
		}
	}
	if text, _ := deed.Print(oneOfEach()); text != "day 3 known 5 found upper for ann;\nday 3 sell upper of ann to ben;\nday 0 known 728 divide upper of ann among ann 1, ben 100;\nday 728 lend upper of ann to ben until 728;\nday 4 forfeit upper of ann;\nday 0 redeem upper of ann;\n" {
		t.Error(text)
	}
	if text, e := deed.Print([]api.Deed{}); text != "" || e != api.OK {
		t.Error(text, e)
	}
}

// P5.1, P5.9: what stands between tokens does not matter, and Print of what was parsed is the same again.
func TestParseBlanks(t *testing.T) {
	gap := regexp.MustCompile(`[ \n]|\b`)
	r := chance(2)
	each(3, 200, 8, 100, func(_ *rand.Rand, l []api.Deed, _, _ int) {
		text := textOf(l)
		wide := gap.ReplaceAllStringFunc(text, func(s string) string {
			if s == " " || s == "\n" {
				return []string{" ", "\t", "\n", "  ", "\n\t "}[r.IntN(5)]
			}
			return s
		})
		tight := strings.NewReplacer(", ", ",", ";\n", ";").Replace(text)
		loose := "\n " + strings.NewReplacer(",", " ,\t", ";", "\n;").Replace(text)
		for _, s := range []string{wide, tight, loose} {
			got, e, at := deed.Parse(s)
			if e != api.OK || at != 0 || !slices.EqualFunc(l, got, same) {
				t.Fatalf("%q %v %d %d", s, got, e, at)
			}
			if again, e := deed.Print(got); e != api.OK || again != text {
				t.Fatal(again, e)
			}
		}
	})
	for _, s := range []string{"", " ", "\n\t \n"} {
		if l, e, at := deed.Parse(s); e != api.OK || at != 0 || len(l) != 0 {
			t.Errorf("%q %v %d %d", s, l, e, at)
		}
	}
	// known may say what would hold anyway.
	if l := deeds(t, "day 3 known 3 found a for b;"); l[0].Known != 3 || textOf(l) != "day 3 found a for b;\n" {
		t.Error(l)
	}
}

var (
	aWord      = regexp.MustCompile(`^[a-z]+`)
	aNumber    = regexp.MustCompile(`^(0|[1-9][0-9]*)`)
	wholeDeeds = regexp.MustCompile(`^(D0(K0)?(FnRn|SnOnTn|VnOnAn0(,n0)*|LnOnTnU0|XnOn|YnOn);)*`)
	division   = regexp.MustCompile(`^D0(K0)?VnOnAn0(,n0)*$`)
)

// letters returns a letter for each token: names are n, numbers 0; and where each token begins. If a token is wrong, it returns where instead.
func letters(source string) (string, []int, int) {
	text := ""
	var at []int
	for i := 0; i < len(source); {
		rest := source[i:]
		w, n := aWord.FindString(rest), aNumber.FindString(rest)
		glued := i > 0 && strings.ContainsRune("abcdefghijklmnopqrstuvwxyz0123456789", rune(source[i-1]))
		switch {
		case strings.ContainsRune(" \t\n", rune(source[i])):
			i++
			continue
		case w != "" && len(w) <= 24 && !glued:
			text += letter(w)
		case n != "" && len(n) <= 3 && (len(n) < 3 || n <= "728") && !glued:
			text += "0"
		case source[i] == ',' || source[i] == ';':
			text += source[i : i+1]
			n = ";"
		default:
			return "", nil, i
		}
		at = append(at, i)
		i += len(w) + len(n)
	}
	return text, append(at, len(source)), -1
}

func letter(word string) string {
	i := slices.Index(reserved(), word)
	if i < 0 {
		return "n"
	}
	return "DKFRSOTVALUXYC"[i : i+1]
}

// formIndex returns where a source goes wrong by the tokens and the grammar, or -1.
func formIndex(source string) int {
	text, at, bad := letters(source)
	if bad >= 0 {
		return bad
	}
	left := text[len(wholeDeeds.FindString(text)):]
	done := len(text) - len(left)
	for n := len(left); n >= 0; n-- {
		if !opens(left[:n]) {
			continue
		}
		if left == "" {
			return -1
		}
		return at[done+n]
	}
	panic("nothing does not begin a source")
}

// opens reports whether letters are the beginning of a deed.
func opens(text string) bool {
	for _, what := range []string{"FnRn;", "SnOnTn;", "VnOnAn0" + strings.Repeat(",n0", len(text)) + ";", "LnOnTnU0;", "XnOn;", "YnOn;"} {
		for _, when := range []string{"D0", "D0K0"} {
			if strings.HasPrefix(when+what, text) {
				return true
			}
		}
	}
	// Behind any number of heirs there may be the end.
	return division.MatchString(text)
}

func checkParse(t *testing.T, source string) {
	t.Helper()
	l, e, got := deed.Parse(source)
	if at := formIndex(source); at >= 0 {
		if e != api.ErrForm || got != at || len(l) != 0 {
			t.Fatalf("%q: %v %d %d, not %d", source, l, e, got, at)
		}
		return
	}
	said := fieldsOf(source)
	if got != 0 || e != deed.Check(said) || e != api.OK && len(l) != 0 || e == api.OK && !slices.EqualFunc(l, said, same) {
		t.Fatalf("%q: %v %d %d", source, l, e, got)
	}
}

// fieldsOf returns the deeds of a source that the grammar has, whether they are formed or not.
func fieldsOf(source string) []api.Deed {
	var l []api.Deed
	kinds := map[string]int{"found": api.DdFound, "sell": api.DdSell, "divide": api.DdDivide, "lend": api.DdLend, "forfeit": api.DdForfeit, "redeem": api.DdRedeem}
	texts := strings.Split(source, ";")
	for _, text := range texts[:len(texts)-1] {
		words := strings.Fields(strings.ReplaceAll(text, ",", " , "))
		number := func(i int) int {
			n, _ := strconv.Atoi(words[i])
			return n
		}
		d := api.Deed{Day: number(1), Known: number(1)}
		if words[2] == "known" {
			d.Known = number(3)
			words = words[2:]
		}
		d.Kind, d.Turn = kinds[words[2]], words[3]
		for i, w := range words {
			switch w {
			case "of":
				d.From = words[i+1]
			case "for", "to":
				d.To = words[i+1]
			case "until":
				d.Until = number(i + 1)
			case "among", ",":
				d.Among = append(d.Among, api.Heir{Name: words[i+1], Share: number(i + 2)})
			}
		}
		l = append(l, d)
	}
	return l
}

// P5.1: sources that are cut, or in which a byte or a token is another one, too much or missing, go wrong where they do.
func TestParseWrong(t *testing.T) {
	r := chance(4)
	bytes := "0123456789 ,;\n\tabydfk-.\x00\xffAZ{`/:\r"
	words := append(reserved(), "ann", "7", "0", "729", "1000", ",", ";", "12x", strings.Repeat("q", 24), strings.Repeat("q", 25), "")
	each(5, 40, 3, 100, func(_ *rand.Rand, l []api.Deed, _, _ int) {
		text := textOf(l)
		checkParse(t, text)
		for i := range len(text) {
			c := string(bytes[r.IntN(len(bytes))])
			for _, x := range []string{text[:i], text[:i] + c + text[i+1:], text[:i] + c + text[i:], text[:i] + text[i+1:]} {
				checkParse(t, x)
			}
		}
		parts := strings.Split(text, " ")
		for i := range parts {
			for _, w := range words {
				x := slices.Clone(parts)
				x[i] = w
				checkParse(t, strings.Join(x, " "))
				checkParse(t, strings.Join(slices.Insert(slices.Clone(parts), i, w), " "))
			}
		}
	})
}

func TestParseForm(t *testing.T) {
	long := strings.Repeat("q", 24)
	for _, x := range []struct {
		text string
		at   int
	}{
		{"day 1 found upper", 17}, {"day 1 sell a of b to b;", 0}, {"day 05", 5}, {"day", 3}, {"day ", 4}, {"day 1 \n", 7}, {"a", 0}, {"found a for b;", 0}, {"1", 0}, {",", 0},
		{"day 728 x", 8}, {"day 729", 4}, {"day 7280", 4}, {"day 99999999999999999999999", 4}, {"day 00", 5}, {"day 0x", 5}, {"day 12x", 6}, {"day 1day 2", 5}, {"day1", 3}, {"day 729x", 4},
		{"day 1 found " + long + " for b", 42}, {"day 1 found " + long + "q for b", 12}, {"day 1 found " + long + "1 for b", 36}, {"day 1 found " + long + "q1 for b", 12},
		{"day 1 found a for b", 19}, {"day 1 found a for b,", 19}, {"day 1 found a to b;", 14}, {"day 1 found for for b;", 12}, {"day 1 found common for b;", 12}, {"day 1 found 3 for b;", 12},
		{"day 1 known found a for b;", 12}, {"day 1 known 2 known 3 found a for b;", 14}, {"day 2 known 1 found a for b;", 0}, {"day 1 2 found a for b;", 6},
		{"day 1 sell a of b until c;", 18}, {"day 1 sell a to b;", 13}, {"day 1 divide a of b among c;", 27}, {"day 1 divide a of b among c 1 d 2;", 30}, {"day 1 divide a of b among c 1,;", 30}, {"day 1 divide a of b among c 1, 2;", 31},
		{"day 1 lend a of b to c;", 22}, {"day 1 lend a of b to c until;", 28}, {"day 1 lend a of b to c until 0;", 0}, {"day 1 forfeit a;", 15}, {"day 1 redeem a of b to c;", 20},
		{"day 1 found a for b; day", 24}, {"day 1 found a for b; x", 21}, {"day 1 found a for b;;", 20}, {"day 1 found a for b;\r\n", 20}, {"\xef\xbb\xbfday", 0}, {"day 1 found é for b;", 12}, {"day -1", 4}, {"day +1", 4}, {"day 1.", 5}, {"Day 1", 0}, {"daY", 2},
		// An error of a token comes ahead of one of the grammar, wherever it lies; both come ahead of deeds that are not formed.
		{"day day day 05", 13}, {"sell 1 ; A", 9}, {"day 1 found a for b 729", 20}, {"day 1 sell a of b to b; day", 27}, {"day 1 sell a of b to b; X", 24},
	} {
		if l, e, at := deed.Parse(x.text); e != api.ErrForm || at != x.at || len(l) != 0 {
			t.Errorf("%q: %v %d %d, not %d", x.text, l, e, at, x.at)
		}
		if at := max(formIndex(x.text), 0); at != x.at {
			t.Errorf("%q: the test says %d", x.text, at)
		}
	}
}

// P5.1: sources that are too long, and too many deeds.
func TestParseLimits(t *testing.T) {
	one := "day 1 found a for b;"
	fails := func(text string, e api.Errno, at int) {
		t.Helper()
		if l, got, i := deed.Parse(text); got != e || i != at || len(l) != 0 {
			t.Errorf("%.40q: %d %d", text, got, i)
		}
	}
	full := strings.Repeat(one, 60)
	if l := deeds(t, full+strings.Repeat(" ", 6000-len(full))); len(l) != 60 {
		t.Error(len(l))
	}
	fails(full+strings.Repeat(" ", 6001-len(full)), api.ErrLimit, 0)
	fails(strings.Repeat("X", 6001), api.ErrLimit, 0)
	fails(strings.Repeat("X", 6000), api.ErrForm, 0)
	fails(strings.Repeat(" ", 5999)+";", api.ErrForm, 5999)
	fails(full+one, api.ErrLimit, 0)
	fails(full+one[:19], api.ErrForm, len(full)+19)
	fails("day 1 sell a of b to b;"+full, api.ErrLimit, 0)
	fails("day 1 sell a of b to b;"+full[len(one):], api.ErrForm, 0)
	fails("day "+strings.Repeat("7", 5996), api.ErrForm, 4)
	fails(strings.Repeat("d", 6000), api.ErrForm, 0)
	// Any number of heirs is right by the grammar, but not formed.
	heirs := "day 1 divide a of b among c 1"
	for i := range 7 {
		heirs += ", d" + strings.Repeat("d", i) + " 1"
	}
	if l := deeds(t, heirs+";"); len(l[0].Among) != 8 {
		t.Error(l)
	}
	fails(heirs+", e 1;", api.ErrForm, 0)
	fails(heirs+", e 1;;", api.ErrForm, len(heirs)+6)
	fails(heirs+", e 0"+strings.Repeat(", e 1", 900)+";", api.ErrForm, 0)
}
