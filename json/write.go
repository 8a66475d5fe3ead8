package json

import "cringle/api"

// writer has a text's beginning. One that would grow past MaxDoc is long, and nothing more is put to it.
type writer struct {
	out  []byte
	long bool
}

func (w *writer) put(s string) {
	w.long = w.long || len(s) > api.MaxDoc-len(w.out)
	if !w.long {
		w.out = append(w.out, s...)
	}
}

func (w *writer) quote(s string) {
	// No text is shorter in quotes: one that has no room without them is not put into any.
	w.long = w.long || len(s) > api.MaxDoc-len(w.out)
	if !w.long {
		w.put(Quote(s))
	}
}

// value puts a value that may be.
func (w *writer) value(v api.Val) {
	switch v.Kind {
	case api.Null:
		w.put("null")
	case api.Str:
		w.quote(v.Text)
	case api.List:
		w.list(v)
	case api.Table:
		w.table(v)
	default:
		w.put(v.Text)
	}
}

func (w *writer) list(v api.Val) {
	w.put("[")
	for i, kid := range v.Kids {
		w.comma(i)
		w.value(kid)
	}
	w.put("]")
}

func (w *writer) table(v api.Val) {
	w.put("{")
	for i, kid := range v.Kids {
		w.comma(i)
		w.quote(v.Keys[i])
		w.put(":")
		w.value(kid)
	}
	w.put("}")
}

// comma puts what stands ahead of a kid.
func (w *writer) comma(kid int) {
	if kid > 0 {
		w.put(",")
	}
}

// escape is how a byte is told in quotes; nothing of one that stands there as it is.
func escape(c byte) string {
	const hex = "0123456789abcdef"
	switch c {
	case '"':
		return `\"`
	case '\\':
		return `\\`
	case '\b':
		return `\b`
	case '\t':
		return `\t`
	case '\n':
		return `\n`
	case '\f':
		return `\f`
	case '\r':
		return `\r`
	}
	if c < ' ' || c == 127 {
		return `\u00` + hex[c>>4:c>>4+1] + hex[c&15:c&15+1]
	}
	return ""
}
