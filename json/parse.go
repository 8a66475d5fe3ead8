package json

import (
	"strings"

	"cringle/api"
	"cringle/ascii"
)

// parser has a text, the byte of it that is next, and how many values were met. A fault stops it by a panic.
type parser struct {
	text   string
	at     int
	values int
}

// whole reads a text of which nothing may be left.
func (p *parser) whole() (v api.Val, fault api.Fault) {
	defer func() {
		// Where nothing stopped the parser, there is nothing that could be asserted.
		if stop, ok := recover().(api.Fault); ok {
			v, fault = api.Val{}, stop
		}
	}()
	v = p.value(0)
	p.skipBlanks()
	if p.at < len(p.text) {
		panic(api.Fault{Why: api.ErrForm, At: p.at})
	}
	return v, fault
}

func (p *parser) skipBlanks() {
	// Layer 1's blanks are others: byte 12 may not stand between parts.
	p.at = len(p.text) - len(strings.TrimLeft(p.text[p.at:], "\t\n\r "))
}

// peek is the byte that is next, where one must stand.
func (p *parser) peek() byte {
	if p.at == len(p.text) {
		panic(api.Fault{Why: api.ErrEnd, At: p.at})
	}
	return p.text[p.at]
}

// next takes the byte that is next, where one must stand.
func (p *parser) next() byte {
	c := p.peek()
	p.at++
	return c
}

// part is the first byte of the part that is next, where one must stand.
func (p *parser) part() byte {
	p.skipBlanks()
	return p.peek()
}

// value reads a value that lies in so many others.
func (p *parser) value(deep int) api.Val {
	first := p.part()
	// Held against the bound ahead of all else, as what is one too many is so, whatever it is.
	if p.values == maxValues {
		panic(api.Fault{Why: api.ErrMany, At: p.at})
	}
	p.values++
	switch first {
	case '[', '{':
		return p.nest(first, deep)
	case '"':
		return api.Val{Kind: api.Str, Text: p.quoted()}
	case 'n':
		p.word("null")
		return api.Val{Kind: api.Null}
	case 't':
		return api.Val{Kind: api.Bool, Text: p.word("true")}
	case 'f':
		return api.Val{Kind: api.Bool, Text: p.word("false")}
	}
	return api.Val{Kind: api.Num, Text: p.number()}
}

// nest reads a List or a Table.
func (p *parser) nest(first byte, deep int) api.Val {
	if deep >= api.MaxDeep {
		panic(api.Fault{Why: api.ErrDeep, At: p.at})
	}
	p.at++
	if first == '[' {
		return p.list(deep + 1)
	}
	return p.table(deep + 1)
}

func (p *parser) list(deep int) api.Val {
	list := api.Val{Kind: api.List}
	for more := !p.takes(']'); more; more = p.goesOn(']') {
		list.Kids = append(list.Kids, p.value(deep))
	}
	return list
}

func (p *parser) table(deep int) api.Val {
	table := api.Val{Kind: api.Table}
	met := keys{}
	for more := !p.takes('}'); more; more = p.goesOn('}') {
		table.Keys = append(table.Keys, p.key(met))
		if !p.takes(':') {
			panic(api.Fault{Why: api.ErrForm, At: p.at})
		}
		table.Kids = append(table.Kids, p.value(deep))
	}
	return table
}

// takes takes a part of one byte, if it is next.
func (p *parser) takes(c byte) bool {
	is := p.part() == c
	if is {
		p.at++
	}
	return is
}

// goesOn takes what stands behind a kid, and tells whether one more must stand.
func (p *parser) goesOn(end byte) bool {
	if p.takes(end) {
		return false
	}
	if !p.takes(',') {
		panic(api.Fault{Why: api.ErrForm, At: p.at})
	}
	return true
}

func (p *parser) key(met keys) string {
	if p.part() != '"' {
		panic(api.Fault{Why: api.ErrForm, At: p.at})
	}
	from := p.at
	key := p.quoted()
	if !met.isNew(key) {
		panic(api.Fault{Why: api.ErrThere, At: from})
	}
	return key
}

func (p *parser) word(word string) string {
	from := p.at
	for i := range len(word) {
		if p.next() != word[i] {
			panic(api.Fault{Why: api.ErrForm, At: from})
		}
	}
	return word
}

func (p *parser) number() string {
	left := p.text[p.at:]
	size, whole := number(left)
	switch {
	case whole:
		p.at += size
		return left[:size]
	case size == len(left):
		panic(api.Fault{Why: api.ErrEnd, At: len(p.text)})
	}
	panic(api.Fault{Why: api.ErrForm, At: p.at})
}

// quoted reads what stands in quotes.
func (p *parser) quoted() string {
	var out strings.Builder
	p.at++
	for {
		switch c := p.peek(); {
		case c == '"':
			p.at++
			return out.String()
		case c == '\\':
			out.WriteRune(p.escaped())
		case c < ' ':
			panic(api.Fault{Why: api.ErrForm, At: p.at})
		default:
			p.at++
			out.WriteByte(c)
		}
	}
}

// escaped reads a sign that is told by an escape, or by two.
func (p *parser) escaped() rune {
	from := p.at
	p.at++
	switch c := p.next(); c {
	case '"', '\\', '/':
		return rune(c)
	case 'b':
		return '\b'
	case 't':
		return '\t'
	case 'n':
		return '\n'
	case 'f':
		return '\f'
	case 'r':
		return '\r'
	case 'u':
		return p.sign(from)
	}
	panic(api.Fault{Why: api.ErrForm, At: from})
}

// sign reads the digits of an escape that begins at from, and the other half behind a first one.
func (p *parser) sign(from int) rune {
	const first, second, end = 0xD800, 0xDC00, 0xE000
	sign := p.four(from)
	if sign < first || end <= sign {
		return sign
	}
	if second <= sign || p.next() != '\\' || p.next() != 'u' {
		panic(api.Fault{Why: api.ErrForm, At: from})
	}
	half := p.four(from)
	if half < second || end <= half {
		panic(api.Fault{Why: api.ErrForm, At: from})
	}
	return 0x10000 + (sign-first)<<10 + (half - second)
}

// four reads four hex digits of an escape that begins at from.
func (p *parser) four(from int) rune {
	var sign rune
	for range 4 {
		p.peek()
		digit, why := ascii.Hex(p.text[p.at : p.at+1])
		if why != api.OK {
			panic(api.Fault{Why: api.ErrForm, At: from})
		}
		p.at++
		sign = sign<<4 | rune(digit)
	}
	return sign
}
