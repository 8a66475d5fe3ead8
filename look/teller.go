package look

import (
	"strings"

	"cringle/api"
)

// told is the text of a node. The node itself is not told as one that lies in another: of a br or an img that is asked for only what lies in it is.
func told(d api.Doc, at int, isPlain bool) string {
	if !isPlace(d, at) {
		return ""
	}
	if d.Nodes[at].Kind == api.Text {
		return d.Nodes[at].Text
	}
	t := teller{nodes: d.Nodes, isPlain: isPlain}
	t.kids(at)
	return t.out.String()
}

// teller gathers the text of what lies in a node.
type teller struct {
	nodes   []api.Node
	isPlain bool
	out     strings.Builder
}

// kids tells what lies in a node, and what lies in that. A node that hides the Texts that lie in it itself hides none that lie deeper.
func (t *teller) kids(at int) {
	hides := isOf(t.nodes[at], "script", "style", "template")
	for _, kid := range t.nodes[at].Kids {
		n := t.nodes[kid]
		switch {
		case n.Kind == api.Text && !hides:
			t.out.WriteString(n.Text)
		case n.Kind == api.Element:
			t.element(kid)
		}
	}
}

// element tells what stands for an element, then what lies in it: in a tree that was not parsed there may be Texts in a br or an img, too.
func (t *teller) element(at int) {
	if t.isPlain {
		t.out.WriteString(standsFor(t.nodes[at]))
	}
	t.kids(at)
}

func standsFor(n api.Node) string {
	switch n.Name {
	case "br":
		return "\n"
	case "img":
		return ofImage(n)
	}
	return ""
}

// ofImage is what stands for an image. An alt that is empty is one, too; the bytes 32 are said of the src alone.
func ofImage(n api.Node) string {
	if alt, is := attr(n, "alt"); is {
		return alt
	}
	if src, is := attr(n, "src"); is {
		return " " + src + " "
	}
	return ""
}
