package token_test

import (
	"regexp"
	"strings"

	"cringle/api"
	"cringle/refs"
	"cringle/token"
	"cringle/utf"
)

const blanks = "\t\n\f\r "

// anyLetters is a pattern of a word of letters, small or great. (The pattern's own way would take signs beyond seven bits for letters, too.)
func anyLetters(word string) string {
	var out strings.Builder
	for _, c := range word {
		out.WriteString("[" + strings.ToLower(string(c)) + strings.ToUpper(string(c)) + "]")
	}
	return out.String()
}

var (
	startForm   = regexp.MustCompile(`^<[A-Za-z]`)
	endForm     = regexp.MustCompile(`^</[A-Za-z]`)
	otherForm   = regexp.MustCompile(`^<[!?/]`)
	placeForm   = regexp.MustCompile(`<[A-Za-z!?/]`)
	doctypeForm = regexp.MustCompile(`^<!` + anyLetters("doctype"))
	ownForms    = map[string]*regexp.Regexp{
		"script":   regexp.MustCompile(`</` + anyLetters("script") + `([\t\n\f\r />]|$)`),
		"style":    regexp.MustCompile(`</` + anyLetters("style") + `([\t\n\f\r />]|$)`),
		"textarea": regexp.MustCompile(`</` + anyLetters("textarea") + `([\t\n\f\r />]|$)`),
		"title":    regexp.MustCompile(`</` + anyLetters("title") + `([\t\n\f\r />]|$)`),
	}
)

// lower is a text with its letters of seven bits small.
func lower(s string) string {
	out := []byte(s)
	for i, c := range out {
		if 'A' <= c && c <= 'Z' {
			out[i] = c + 32
		}
	}
	return string(out)
}

// machine reads a tag as the chapter words it, byte by byte.
type machine struct {
	at          func(c byte) // what is done with the next byte
	name        string
	attr, value string
	attrs       []api.Attr
	slash       bool // whether the last byte is a / that is no part of a value
	self, done  bool
}

func (m *machine) inName(c byte) {
	if strings.IndexByte(blanks+"/>", c) >= 0 {
		m.between(c)
		return
	}
	m.name += string([]byte{c})
}

func (m *machine) between(c byte) {
	m.at = m.between
	switch {
	case c == '>':
		m.self, m.done = m.slash, true
	case c == '/':
		m.slash = true
	case strings.IndexByte(blanks, c) >= 0:
		m.slash = false
	default:
		m.slash = false
		m.attr, m.value, m.at = string([]byte{c}), "", m.inAttr
	}
}

func (m *machine) inAttr(c byte) {
	if strings.IndexByte(blanks+"/>=", c) >= 0 {
		m.at = m.behindAttr
		m.behindAttr(c)
		return
	}
	m.attr += string([]byte{c})
}

func (m *machine) behindAttr(c byte) {
	switch {
	case c == '=':
		m.at = m.aheadOfValue
	case strings.IndexByte(blanks, c) < 0:
		m.put()
		m.between(c)
	}
}

func (m *machine) aheadOfValue(c byte) {
	switch {
	case c == '"':
		m.at = m.inDouble
	case c == '\'':
		m.at = m.inSingle
	case strings.IndexByte(blanks, c) < 0:
		m.at = m.inBare
		m.inBare(c)
	}
}

func (m *machine) inDouble(c byte) { m.inQuotes(c, '"') }

func (m *machine) inSingle(c byte) { m.inQuotes(c, '\'') }

func (m *machine) inQuotes(c, quote byte) {
	if c == quote {
		m.put()
		m.at = m.between
		return
	}
	m.value += string([]byte{c})
}

func (m *machine) inBare(c byte) {
	if strings.IndexByte(blanks+">", c) >= 0 {
		m.put()
		m.between(c)
		return
	}
	m.value += string([]byte{c})
}

func (m *machine) put() {
	for _, a := range m.attrs {
		if a.Name == lower(m.attr) {
			return
		}
	}
	if len(m.attrs) < 64 {
		m.attrs = append(m.attrs, api.Attr{Name: lower(m.attr), Value: refs.Decode(m.value, true)})
	}
}

// tagged is the tag whose name s[from:] begins with, and where it ends.
func tagged(s string, from int) (token.Token, int) {
	m := &machine{}
	m.at = m.inName
	for i := from; i < len(s); i++ {
		m.at(s[i])
		if m.done {
			return token.Token{Kind: token.Start, Name: lower(m.name), Attrs: m.attrs, Self: m.self}, i + 1
		}
	}
	return token.Token{}, len(s)
}

// upTo is what stands in s ahead of a mark, from a byte on, and where the mark ends.
func upTo(s, mark string, from int) (string, int) {
	at := strings.Index(s[from:], mark)
	if at < 0 {
		return s[from:], len(s)
	}
	return s[from : from+at], from + at + len(mark)
}

// worded is what Next answers by the chapter's words.
func worded(s string) (token.Token, int) {
	switch {
	case s == "":
		return token.Token{}, 0
	case startForm.MatchString(s):
		return tagged(s, 1)
	case endForm.MatchString(s):
		t, size := tagged(s, 2)
		if t.Kind == 0 {
			return t, size
		}
		return end(t.Name), size
	case strings.HasPrefix(s, "<!--"):
		told, size := upTo(s, "-->", 4)
		return comment(told), size
	case otherForm.MatchString(s):
		told, size := upTo(s, ">", 2)
		if doctypeForm.MatchString(s) {
			return doctype(), size
		}
		return comment(told), size
	}
	// A text's first byte begins nothing else.
	size := len(s)
	if m := placeForm.FindStringIndex(s[1:]); m != nil {
		size = 1 + m[0]
	}
	return text(refs.Decode(s[:size], false)), size
}

// wordedAll are all tokens of a cleaned document by the chapter's words, and how many bytes each has (the last one may be of no token).
func wordedAll(s string) ([]token.Token, []int) {
	var all []token.Token
	var sizes []int
	ahead := ""
	for s != "" {
		t, size := worded(s)
		if form := ownForms[ahead]; form != nil {
			own := len(s)
			if m := form.FindStringIndex(s); m != nil {
				own = m[0]
			}
			if own > 0 {
				t, size = text(s[:own]), own
				if ahead == "textarea" || ahead == "title" {
					t = text(refs.Decode(s[:own], false))
				}
			}
		}
		ahead = ""
		if t.Kind == token.Start {
			ahead = t.Name
		}
		if t.Kind != 0 {
			all = append(all, t)
		}
		sizes = append(sizes, size)
		s = s[size:]
	}
	return all, sizes
}

// cleaned is a repaired document's cleaning, sign by sign.
func cleaned(s string) string {
	var out strings.Builder
	last := rune(0)
	for _, sign := range utf.Repair(s) {
		switch {
		case sign == '\r', sign == '\n' && last != '\r':
			out.WriteByte('\n')
		case sign == '\n':
		case sign == 0:
			out.WriteString("\xEF\xBF\xBD")
		default:
			out.WriteRune(sign)
		}
		last = sign
	}
	return out.String()
}
