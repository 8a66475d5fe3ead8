package look_test

import (
	"slices"
	"strings"

	"cringle/api"
	"cringle/tree"
)

// What the chapter's words say, written out once more: each node is asked by itself, which ones stand above it.

const blanks = "\t\n\f\r "

// isBelow tells whether one lies in the other, or in what lies in that.
func isBelow(d api.Doc, at, of int) bool {
	for at > 0 {
		at = d.Nodes[at].Up
		if at == of {
			return true
		}
	}
	return false
}

// above are the names of those above a node: first that of the one it lies in, last that of the one that is asked.
func above(d api.Doc, at, asked int) []string {
	var names []string
	for at != asked {
		at = d.Nodes[at].Up
		names = append(names, d.Nodes[at].Name)
	}
	return names
}

func isOne(name string, of ...string) bool { return slices.Contains(of, name) }

// isHidden tells whether one that lies in a node, or in what lies in that, is hidden there.
func isHidden(d api.Doc, at, asked int) bool {
	return slices.ContainsFunc(above(d, at, asked), func(name string) bool { return isOne(name, "script", "style", "template") })
}

// isStoodFor tells whether it lies in something else for which a sign or an attribute stands.
func isStoodFor(d api.Doc, at, asked int) bool {
	names := above(d, at, asked)
	return slices.ContainsFunc(names[:len(names)-1], func(name string) bool { return isOne(name, "br", "img") })
}

func wordedAttr(d api.Doc, at int, name string) (string, bool) {
	i := slices.IndexFunc(d.Nodes[at].Attrs, func(a api.Attr) bool { return a.Name == name })
	if i < 0 {
		return "", false
	}
	return d.Nodes[at].Attrs[i].Value, true
}

func wordedWords(d api.Doc, at int, name string) []string {
	value, _ := wordedAttr(d, at, name)
	var once []string
	for _, word := range strings.FieldsFunc(value, func(r rune) bool { return strings.ContainsRune(blanks, r) }) {
		if !slices.Contains(once, word) {
			once = append(once, word)
		}
	}
	return once
}

func wordedStarts(d api.Doc, at int, prefixes ...string) []string {
	var all []string
	for _, word := range wordedWords(d, at, "class") {
		count := 0
		for _, prefix := range prefixes {
			if rest, is := strings.CutPrefix(word, prefix); is && rest != "" {
				count++
			}
		}
		if count > 0 {
			all = append(all, word)
		}
	}
	return all
}

// wordedBelow are the elements below.
func wordedBelow(d api.Doc, at int) []int {
	var all []int
	for other, n := range d.Nodes {
		if n.Kind == api.Element && isBelow(d, other, at) {
			all = append(all, other)
		}
	}
	return all
}

// wordedKids are the elements that lie in it itself.
func wordedKids(d api.Doc, at int) []int {
	var all []int
	for other, n := range d.Nodes {
		if n.Kind == api.Element && n.Up == at {
			all = append(all, other)
		}
	}
	return all
}

// named are those places of which the nodes have one of names.
func named(d api.Doc, places []int, names ...string) []int {
	var all []int
	for _, at := range places {
		for _, name := range names {
			if d.Nodes[at].Name == name {
				all = append(all, at)
				break
			}
		}
	}
	return all
}

func wordedOnly(d api.Doc, at int, names ...string) int {
	kids := wordedKids(d, at)
	if len(names) > 0 {
		kids = named(d, kids, names...)
	}
	if len(kids) == 1 {
		return kids[0]
	}
	return -1
}

// inOrder are the places of all that lies in a node: each one, then what lies in it.
func inOrder(d api.Doc, at int) []int {
	var all []int
	for other, n := range d.Nodes {
		if n.Up == at {
			all = append(append(all, other), inOrder(d, other)...)
		}
	}
	return all
}

func wordedText(d api.Doc, at int) string {
	s := d.Nodes[at].Text
	for _, other := range inOrder(d, at) {
		if !isHidden(d, other, at) {
			s += d.Nodes[other].Text
		}
	}
	return s
}

func wordedPlain(d api.Doc, at int) string {
	s := d.Nodes[at].Text
	for _, other := range inOrder(d, at) {
		if isHidden(d, other, at) || isStoodFor(d, other, at) {
			continue
		}
		switch d.Nodes[other].Name {
		case "br":
			s += "\n"
		case "img":
			told, is := wordedAttr(d, other, "alt")
			if !is {
				told, _ = wordedAttr(d, other, "src")
			}
			s += " " + told + " "
		default:
			s += d.Nodes[other].Text
		}
	}
	return strings.Trim(s, blanks)
}

func wordedHTML(d api.Doc, at int) string {
	s, why := tree.Write(d, at)
	if why != api.OK {
		return ""
	}
	return strings.Trim(s, blanks)
}
