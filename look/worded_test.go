package look_test

import (
	"slices"
	"strings"

	"cringle/api"
	"cringle/tree"
)

// What the chapter's words say, written out once more: each node is asked by itself, what it lies in.

const blanks = "\t\n\f\r "

// isBelow tells whether one lies in the other, or in what lies in that.
func isBelow(d api.Doc, at, of int) bool {
	for at > 0 {
		at = d.Nodes[at].Up
		if at == of {
			return true
		}
	}
	return false
}

func isOne(name string, of ...string) bool { return slices.Contains(of, name) }

// isHidden tells whether a Text lies in one that hides it.
func isHidden(d api.Doc, at int) bool {
	n := d.Nodes[at]
	return n.Kind == api.Text && isOne(d.Nodes[n.Up].Name, "script", "style", "template")
}

func wordedAttr(d api.Doc, at int, name string) (string, bool) {
	i := slices.IndexFunc(d.Nodes[at].Attrs, func(a api.Attr) bool { return a.Name == name })
	if i < 0 {
		return "", false
	}
	return d.Nodes[at].Attrs[i].Value, true
}

func wordedWords(d api.Doc, at int, name string) []string {
	value, _ := wordedAttr(d, at, name)
	var once []string
	for _, word := range strings.FieldsFunc(value, func(r rune) bool { return strings.ContainsRune(blanks, r) }) {
		if !slices.Contains(once, word) {
			once = append(once, word)
		}
	}
	return once
}

func wordedStarts(d api.Doc, at int, prefixes ...string) []string {
	var all []string
	for _, word := range wordedWords(d, at, "class") {
		count := 0
		for _, prefix := range prefixes {
			if rest, is := strings.CutPrefix(word, prefix); is && rest != "" {
				count++
			}
		}
		if count > 0 {
			all = append(all, word)
		}
	}
	return all
}

// wordedBelow are the elements below.
func wordedBelow(d api.Doc, at int) []int {
	var all []int
	for other, n := range d.Nodes {
		if n.Kind == api.Element && isBelow(d, other, at) {
			all = append(all, other)
		}
	}
	return all
}

// wordedKids are the elements that lie in it itself.
func wordedKids(d api.Doc, at int) []int {
	var all []int
	for other, n := range d.Nodes {
		if n.Kind == api.Element && n.Up == at {
			all = append(all, other)
		}
	}
	return all
}

// named are those places of which the nodes have one of names.
func named(d api.Doc, places []int, names ...string) []int {
	var all []int
	for _, at := range places {
		for _, name := range names {
			if d.Nodes[at].Name == name {
				all = append(all, at)
				break
			}
		}
	}
	return all
}

func wordedOnly(d api.Doc, at int, names ...string) int {
	for _, alone := range wordedKids(d, at) {
		if len(wordedKids(d, at)) == 1 && (len(names) == 0 || isOne(d.Nodes[alone].Name, names...)) {
			return alone
		}
	}
	return -1
}

// inOrder are the places of all that lies in a node: each one, then what lies in it.
func inOrder(d api.Doc, at int) []int {
	var all []int
	for other, n := range d.Nodes {
		if n.Up == at {
			all = append(append(all, other), inOrder(d, other)...)
		}
	}
	return all
}

func wordedText(d api.Doc, at int) string {
	s := d.Nodes[at].Text
	for _, other := range inOrder(d, at) {
		if !isHidden(d, other) {
			s += d.Nodes[other].Text
		}
	}
	return s
}

func wordedPlain(d api.Doc, at int) string {
	s := d.Nodes[at].Text
	for _, other := range inOrder(d, at) {
		if isHidden(d, other) {
			continue
		}
		s += d.Nodes[other].Text
		alt, hasAlt := wordedAttr(d, other, "alt")
		src, hasSrc := wordedAttr(d, other, "src")
		switch name := d.Nodes[other].Name; {
		case name == "br":
			s += "\n"
		case name == "img" && hasAlt:
			s += alt
		case name == "img" && hasSrc:
			s += " " + src + " "
		}
	}
	return strings.Trim(s, blanks)
}

func wordedHTML(d api.Doc, at int) string {
	s, why := tree.Write(d, at)
	if why != api.OK {
		return ""
	}
	return strings.Trim(s, blanks)
}
