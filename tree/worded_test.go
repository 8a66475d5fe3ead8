package tree_test

import (
	"slices"
	"strings"

	"cringle/api"
	"cringle/token"
)

// What the chapter's words say, written out once more: nodes that have one another, laid out as a list at the end.

const (
	voids  = "area, base, br, col, embed, hr, img, input, link, meta, param, source, track, wbr"
	blocks = "address, article, aside, blockquote, details, div, dl, fieldset, figure, footer, form, h1, h2, h3, h4, h5, h6, header, hr, main, nav, ol, p, pre, section, table, ul"
)

// closings are lines of: start tags; what they close; walls.
const closings = `li; li; ol, ul
dt, dd; dt, dd; dl
option; option; select
tr; tr; table
td, th; td, th; tr, table
` + blocks + `; p; button, table, td, th, li, object`

func names(list string) []string { return strings.Split(list, ", ") }

type closing struct{ starts, closed, walls []string }

// closingsRead are the lines of closings.
var closingsRead = func() []closing {
	var all []closing
	for _, line := range strings.Split(closings, "\n") {
		part := strings.Split(line, "; ")
		all = append(all, closing{names(part[0]), names(part[1]), append(names(part[2]), "body", "html")})
	}
	return all
}()

var voidNames = names(voids)

type branch struct {
	kind  int
	name  string
	attrs []api.Attr
	text  string
	kids  []*branch
}

type grower struct {
	root  *branch
	open  []*branch
	once  []*branch
	nodes int
}

// lastOf is where the last open one of those names stands (-1: there is none).
func (g *grower) lastOf(of ...string) int {
	found := -1
	for i, b := range g.open {
		if slices.Contains(of, b.name) {
			found = i
		}
	}
	return found
}

// grow lays one behind what lies in the last open one already.
func (g *grower) grow(b *branch) api.Errno {
	g.nodes++
	if g.nodes > 4096 {
		return api.ErrMany
	}
	if 1+len(g.open) > 64 {
		return api.ErrDeep
	}
	in := g.in()
	in.kids = append(in.kids, b)
	return api.OK
}

func (g *grower) in() *branch {
	if len(g.open) == 0 {
		return g.root
	}
	return g.open[len(g.open)-1]
}

func (g *grower) closeFor(start string) {
	for _, c := range closingsRead {
		if !slices.Contains(c.starts, start) {
			continue
		}
		at := g.lastOf(c.closed...)
		if at >= 0 && at > g.lastOf(c.walls...) {
			g.open = g.open[:at]
		}
	}
}

func (g *grower) start(t token.Token) api.Errno {
	g.closeFor(t.Name)
	for _, b := range g.once {
		if b.name == t.Name {
			b.attrs = joined(b.attrs, t.Attrs)
			return api.OK
		}
	}
	b := &branch{kind: 2, name: t.Name, attrs: slices.Clone(t.Attrs)}
	if why := g.grow(b); why != api.OK {
		return why
	}
	if slices.Contains(names("html, body"), t.Name) {
		g.once = append(g.once, b)
	}
	if !slices.Contains(voidNames, t.Name) {
		g.open = append(g.open, b)
	}
	return api.OK
}

func joined(a, b []api.Attr) []api.Attr {
	for _, attr := range b {
		there := 0
		for _, other := range a {
			if other.Name == attr.Name {
				there++
			}
		}
		if there == 0 {
			a = append(a, attr)
		}
	}
	return a[:min(len(a), 64)]
}

func (g *grower) end(name string) {
	at := g.lastOf(name)
	free := slices.Contains(names("table, html, body"), name)
	if at >= 0 && (free || at > g.lastOf("table")) {
		g.open = g.open[:at]
	}
}

func (g *grower) text(s string) api.Errno {
	in := g.in()
	if n := len(in.kids); n > 0 && in.kids[n-1].kind == 3 {
		in.kids[n-1].text += s
		return api.OK
	}
	return g.grow(&branch{kind: 3, text: s})
}

// listed lays a branch, and all in it, behind nodes.
func listed(nodes []api.Node, b *branch, up int) []api.Node {
	at := len(nodes)
	nodes = append(nodes, api.Node{Kind: b.kind, Name: b.name, Attrs: b.attrs, Text: b.text, Up: up})
	for _, kid := range b.kids {
		nodes[at].Kids = append(nodes[at].Kids, len(nodes))
		nodes = listed(nodes, kid, at)
	}
	return nodes
}

// worded is a document's tree.
func worded(s string) (api.Doc, api.Errno) {
	tokens, why := token.All(s)
	if why != api.OK {
		return api.Doc{}, why
	}
	g := &grower{root: &branch{kind: 1}, nodes: 1}
	for _, t := range tokens {
		why := api.OK
		switch t.Kind {
		case token.Start:
			why = g.start(t)
		case token.End:
			g.end(t.Name)
		case token.Text:
			why = g.text(t.Text)
		}
		if why != api.OK {
			return api.Doc{}, why
		}
	}
	return api.Doc{Nodes: listed(nil, g.root, -1)}, api.OK
}

// mayBe tells whether it is a tree, sentence by sentence.
func mayBe(d api.Doc) bool {
	if len(d.Nodes) < 1 || len(d.Nodes) > 4096 {
		return false
	}
	for at, n := range d.Nodes {
		var kids []int
		for other, m := range d.Nodes {
			if m.Up == at {
				kids = append(kids, other)
			}
		}
		if !slices.Equal(kids, n.Kids) {
			return false
		}
		if at == 0 != (n.Kind == 1) || at == 0 != (n.Up == -1) {
			return false
		}
		if at > 0 && (n.Up < 0 || n.Up >= at || d.Nodes[n.Up].Kind == 3) {
			return false
		}
		if n.Kind < 1 || n.Kind > 3 || n.Kind == 2 == (n.Name == "") || n.Kind == 3 == (n.Text == "") {
			return false
		}
		for _, attr := range n.Attrs {
			if n.Kind != 2 || attr.Name == "" {
				return false
			}
		}
	}
	return true
}

// above is how many nodes stand above one.
func above(d api.Doc, at int) int {
	count := 0
	for at > 0 {
		at = d.Nodes[at].Up
		count++
	}
	return count
}

var (
	ofText = strings.NewReplacer("&", "&amp;", "<", "&lt;", ">", "&gt;", "\u00a0", "&nbsp;", "\r", "&#13;")
	ofAttr = strings.NewReplacer("&", "&amp;", `"`, "&quot;", "\u00a0", "&nbsp;", "\r", "&#13;")
)

// outer is the text of a node that may be, with its own tags.
func outer(d api.Doc, at int) string {
	n := d.Nodes[at]
	if n.Kind == 3 {
		if slices.Contains(names("script, style"), d.Nodes[n.Up].Name) {
			return n.Text
		}
		return ofText.Replace(n.Text)
	}
	s := "<" + n.Name
	for _, attr := range n.Attrs {
		s += " " + attr.Name + `="` + ofAttr.Replace(attr.Value) + `"`
	}
	s += ">" + inner(d, at)
	if !slices.Contains(voidNames, n.Name) {
		s += "</" + n.Name + ">"
	}
	return s
}

func inner(d api.Doc, at int) string {
	s := ""
	for _, kid := range d.Nodes[at].Kids {
		s += outer(d, kid)
	}
	return s
}

// written is what Write answers.
func written(d api.Doc, at int) (string, api.Errno) {
	if !mayBe(d) || at < 0 || at >= len(d.Nodes) {
		return "", api.ErrMany
	}
	s := inner(d, at)
	if d.Nodes[at].Kind == 3 {
		s = outer(d, at)
	}
	if len(s) > 4*65536 {
		return "", api.ErrMany
	}
	return s, api.OK
}
