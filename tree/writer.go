package tree

import (
	"strings"

	"cringle/api"
	"cringle/token"
)

const maxText = 4 * api.MaxDoc

// writer writes nodes of a tree. Each of its calls tells whether there was room.
type writer struct {
	nodes []api.Node
	out   strings.Builder
}

// kids writes what lies in a node.
func (w *writer) kids(at int) bool {
	for _, kid := range w.nodes[at].Kids {
		if !w.node(kid) {
			return false
		}
	}
	return true
}

func (w *writer) node(at int) bool {
	n := w.nodes[at]
	// What has no room as it is has none encoded: it could be too long to be encoded at all.
	if leastSize(n) > maxText {
		return false
	}
	if n.Kind == api.Text {
		return w.text(n)
	}
	if !w.put(token.Tag(token.Token{Kind: token.Start, Name: n.Name, Attrs: n.Attrs})) || !w.kids(at) {
		return false
	}
	return isVoid(n.Name) || w.put(token.Tag(token.Token{Kind: token.End, Name: n.Name}))
}

func (w *writer) text(n api.Node) bool {
	if up := w.nodes[n.Up].Name; up == "script" || up == "style" {
		return w.put(n.Text)
	}
	return w.put(token.Tag(token.Token{Kind: token.Text, Text: n.Text}))
}

func (w *writer) put(s string) bool {
	if len(s) > maxText-w.out.Len() {
		return false
	}
	w.out.WriteString(s)
	return true
}

// leastSize is how many bytes a node's text has at least.
func leastSize(n api.Node) int {
	size := len(n.Name) + len(n.Text)
	for _, attr := range n.Attrs {
		size += len(attr.Name) + len(attr.Value)
	}
	return size
}
