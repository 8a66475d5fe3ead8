package token

import (
	"slices"
	"strings"

	"cringle/api"
	"cringle/ascii"
	"cringle/refs"
)

// text is what is left of a document.
type text struct{ left string }

// take takes that many bytes.
func (t *text) take(size int) string {
	taken := t.left[:size]
	t.left = t.left[size:]
	return taken
}

// took takes a mark that is next, and tells whether it was.
func (t *text) took(mark string) bool {
	left, was := strings.CutPrefix(t.left, mark)
	t.left = left
	return was
}

// past takes all up to a mark, and the mark, which it does not answer; or all, if there is none.
func (t *text) past(mark string) string {
	taken, left, _ := strings.Cut(t.left, mark)
	t.left = left
	return taken
}

// while takes the bytes that are so, up to the first one that is not.
func (t *text) while(is func(byte) bool) string {
	size := 0
	for size < len(t.left) && is(t.left[size]) {
		size++
	}
	return t.take(size)
}

// reader has what is left of a document, and the name of the start tag ahead, if a text of its own may stand behind that.
type reader struct {
	text
	ahead string
}

// next takes a token of what is left, which is not empty. It is a zero one, if the document ends within a tag: then nothing is left.
func (r *reader) next() Token {
	name := r.ahead
	r.ahead = ""
	if size := ownSize(name, r.left); size > 0 {
		return r.own(name, size)
	}
	switch {
	case isTag("<", r.left):
		return r.start()
	case isTag("</", r.left):
		return r.end()
	case r.took("<!--"):
		return Token{Kind: Comment, Text: r.past("-->")}
	case begins(r.left):
		return r.mark()
	}
	return r.plain()
}

// isTag tells whether s begins with open and a letter.
func isTag(open, s string) bool {
	name, is := strings.CutPrefix(s, open)
	return is && name != "" && ascii.IsLetter(name[0])
}

// begins tells whether s begins with something else than a text.
func begins(s string) bool {
	if isTag("<", s) {
		return true
	}
	return strings.HasPrefix(s, "</") || strings.HasPrefix(s, "<!") || strings.HasPrefix(s, "<?")
}

// plain takes a text: nothing else begins with its first byte.
func (r *reader) plain() Token {
	size := 1
	for size < len(r.left) && !begins(r.left[size:]) {
		size++
	}
	return Token{Kind: Text, Text: refs.Decode(r.take(size), false)}
}

// mark takes a doctype, or a comment that is without dashes.
func (r *reader) mark() Token {
	whole := r.past(">")
	if isDoctype(whole) {
		return Token{Kind: Doctype}
	}
	return Token{Kind: Comment, Text: whole[len("<!"):]}
}

func isDoctype(s string) bool {
	const begin = "<!doctype"
	return len(s) >= len(begin) && ascii.Same(s[:len(begin)], begin)
}

// start takes a start tag.
func (r *reader) start() Token {
	r.take(len("<"))
	t := r.tag()
	if hasOwn(t.Name) {
		r.ahead = t.Name
	}
	return t
}

// end takes an end tag. It is read as a start tag, as a > in a value does not end it.
func (r *reader) end() Token {
	r.take(len("</"))
	t := r.tag()
	if t.Kind == 0 {
		return Token{}
	}
	return Token{Kind: End, Name: t.Name}
}

// tag takes a start tag from its name on.
func (r *reader) tag() Token {
	t := Token{Kind: Start, Name: ascii.Lower(r.while(isOfName))}
	for {
		// No part of a value is in a gap, so that a / at its end is one that closes the tag.
		gap := r.while(isOfGap)
		if r.took(">") {
			t.Self = strings.HasSuffix(gap, "/")
			return t
		}
		if r.left == "" {
			return Token{}
		}
		t.Attrs = add(t.Attrs, r.attr())
	}
}

// attr takes an attribute. Its first byte is one of its name, even if it is a =.
func (r *reader) attr() api.Attr {
	name := r.take(1) + r.while(isOfAttrName)
	return api.Attr{Name: ascii.Lower(name), Value: refs.Decode(r.value(), true)}
}

// value takes an attribute's value with the = ahead of it, if there is one.
func (r *reader) value() string {
	r.while(ascii.IsBlank)
	if !r.took("=") {
		return ""
	}
	r.while(ascii.IsBlank)
	switch {
	case r.took(`"`):
		return r.past(`"`)
	case r.took("'"):
		return r.past("'")
	}
	return r.while(isOfValue)
}

// add lays an attribute behind others, if it counts.
func add(attrs []api.Attr, attr api.Attr) []api.Attr {
	isSame := func(other api.Attr) bool { return other.Name == attr.Name }
	if len(attrs) == maxAttrs || slices.ContainsFunc(attrs, isSame) {
		return attrs
	}
	return append(attrs, attr)
}

// isOfGap tells whether a byte is gone past between attributes.
func isOfGap(c byte) bool { return ascii.IsBlank(c) || c == '/' }

// isOfName tells whether a byte may stand in a name.
func isOfName(c byte) bool { return !isOfGap(c) && c != '>' }

// isOfAttrName tells whether it may stand in an attribute's name behind its first byte.
func isOfAttrName(c byte) bool { return isOfName(c) && c != '=' }

// isOfValue tells whether it may stand in a value without quotes.
func isOfValue(c byte) bool { return !ascii.IsBlank(c) && c != '>' }

// hasOwn tells whether a text of its own may stand behind a start tag of that name: one that only its end tag ends.
func hasOwn(name string) bool {
	switch name {
	case "script", "style", "textarea", "title":
		return true
	}
	return false
}

// own takes that text of the start tag of that name.
func (r *reader) own(name string, size int) Token {
	t := Token{Kind: Text, Text: r.take(size)}
	if name == "textarea" || name == "title" {
		t.Text = refs.Decode(t.Text, false)
	}
	return t
}

// ownSize is how many bytes it has at the beginning of s (0 of no name).
func ownSize(name, s string) int {
	if name == "" {
		return 0
	}
	size := 0
	for {
		at := strings.Index(s[size:], "</")
		if at < 0 {
			return len(s)
		}
		size += at
		if isEndOf(name, s[size+len("</"):]) {
			return size
		}
		size += len("</")
	}
}

// isEndOf tells whether what stands behind </ is the name, and its end.
func isEndOf(name, s string) bool {
	if len(s) < len(name) || !ascii.Same(s[:len(name)], name) {
		return false
	}
	return len(s) == len(name) || !isOfName(s[len(name)])
}
