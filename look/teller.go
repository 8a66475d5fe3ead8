package look

import (
	"strings"

	"cringle/api"
)

// told is the text of a node. The node itself is not told as one that lies in another: of a br or an img that is asked for only what lies in it is.
func told(d api.Doc, at int, isPlain bool) string {
	if !isPlace(d, at) {
		return ""
	}
	if d.Nodes[at].Kind == api.Text {
		return d.Nodes[at].Text
	}
	t := teller{nodes: d.Nodes, isPlain: isPlain}
	t.kids(at)
	return t.out.String()
}

// teller gathers the text of what lies in a node.
type teller struct {
	nodes   []api.Node
	isPlain bool
	out     strings.Builder
}

// kids tells what lies in a node, if that does not hide it.
func (t *teller) kids(at int) {
	if isOf(t.nodes[at], "script", "style", "template") {
		return
	}
	for _, kid := range t.nodes[at].Kids {
		t.node(kid)
	}
}

func (t *teller) node(at int) {
	n := t.nodes[at]
	switch {
	case n.Kind == api.Text:
		t.out.WriteString(n.Text)
	case t.isPlain && isOf(n, "br"):
		t.out.WriteString("\n")
	case t.isPlain && isOf(n, "img"):
		t.out.WriteString(" " + ofImage(n) + " ")
	default:
		t.kids(at)
	}
}

// ofImage is what stands for an image: an alt that is empty is one, too.
func ofImage(n api.Node) string {
	if alt, is := attr(n, "alt"); is {
		return alt
	}
	src, _ := attr(n, "src")
	return src
}
