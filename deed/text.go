package deed

import (
	"strconv"
	"strings"

	"drowner/api"
)

// Parse returns the deeds of a source, or an error and where it lies.
func Parse(source string) ([]api.Deed, api.Errno, int) {
	if len(source) > api.MaxSource {
		return nil, api.ErrLimit, 0
	}
	l, at, ok := read(source)
	if !ok {
		return nil, api.ErrForm, at
	}
	if e := Check(l); e != api.OK {
		return nil, e, 0
	}
	return l, api.OK, 0
}

// wrong is the byte at which a source goes wrong.
type wrong int

// read returns the deeds of a source as the grammar has it, and whether it does; where it goes wrong if not.
func read(source string) (l []api.Deed, at int, ok bool) {
	defer func() {
		if w, is := recover().(wrong); is {
			l, at = nil, int(w)
		}
	}()
	p := parser{}
	for t := range tokens(source) {
		p.rest = append(p.rest, t)
	}
	// An error of a token comes ahead of all that is wrong with those before it.
	if last := p.rest[len(p.rest)-1]; last.kind == wrongToken {
		panic(wrong(last.at))
	}
	for p.rest[0].kind != endToken {
		d := p.deed()
		l = append(l, d)
	}
	return l, 0, true
}

// parser takes tokens one by one. It panics at the first one that cannot stand where it does.
type parser struct{ rest []token } // the last one is the end

func (p *parser) deed() api.Deed {
	var d api.Deed
	p.word("day")
	d.Day = p.number()
	d.Known = d.Day
	if p.has("known") {
		d.Known = p.number()
	}
	d.Kind = p.kind()
	s := shapes[d.Kind]
	d.Turn = p.name()
	d.From = p.nameBehind(s.from)
	d.To = p.nameBehind(s.to)
	if s.among != "" {
		p.word(s.among)
		d.Among = p.heirs()
	}
	if s.until != "" {
		p.word(s.until)
		d.Until = p.number()
	}
	p.word(";")
	return d
}

// kind takes a verb.
func (p *parser) kind() int {
	for kind := api.DdFound; kind <= api.DdRedeem; kind++ {
		if p.has(shapes[kind].verb) {
			return kind
		}
	}
	panic(wrong(p.rest[0].at))
}

// nameBehind takes a word and a name; neither if there is no such word.
func (p *parser) nameBehind(word string) string {
	if word == "" {
		return ""
	}
	p.word(word)
	return p.name()
}

func (p *parser) heirs() []api.Heir {
	var l []api.Heir
	for {
		name := p.name()
		share := p.number()
		l = append(l, api.Heir{Name: name, Share: share})
		if !p.has(",") {
			return l
		}
	}
}

func (p *parser) name() string { return p.take(isName(p.rest[0].text)).text }

func (p *parser) number() int { return p.take(p.rest[0].kind == numberToken).number }

// word takes a reserved word, or a mark.
func (p *parser) word(text string) { p.take(p.rest[0].text == text) }

// has takes a reserved word, or a mark, if it comes next.
func (p *parser) has(text string) bool {
	if p.rest[0].text != text {
		return false
	}
	p.word(text)
	return true
}

// take takes the next token, if it may stand there.
func (p *parser) take(may bool) token {
	if !may {
		panic(wrong(p.rest[0].at))
	}
	t := p.rest[0]
	p.rest = p.rest[1:]
	return t
}

// Print returns the text of deeds.
func Print(l []api.Deed) (string, api.Errno) {
	if e := Check(l); e != api.OK {
		return "", e
	}
	var text strings.Builder
	for _, d := range l {
		text.WriteString(line(d))
	}
	return text.String(), api.OK
}

// line returns the line of a deed.
func line(d api.Deed) string {
	s := shapes[d.Kind]
	text := "day " + strconv.Itoa(d.Day)
	if d.Known != d.Day {
		text += behind("known", strconv.Itoa(d.Known))
	}
	text += behind(s.verb, d.Turn) + behind(s.from, d.From) + behind(s.to, d.To)
	return text + behind(s.among, heirs(d.Among)) + behind(s.until, strconv.Itoa(d.Until)) + ";\n"
}

// behind returns a word and what stands behind it; nothing if there is no such word.
func behind(word, text string) string {
	if word == "" {
		return ""
	}
	return " " + word + " " + text
}

func heirs(l []api.Heir) string {
	var texts []string
	for _, h := range l {
		texts = append(texts, h.Name+" "+strconv.Itoa(h.Share))
	}
	return strings.Join(texts, ", ")
}
