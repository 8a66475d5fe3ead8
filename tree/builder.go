package tree

import (
	"slices"

	"cringle/api"
	"cringle/token"
)

const maxAttrs = 64

// builder lays nodes. The Root is the first of the open ones, and never closed, as no tag has its name.
type builder struct {
	nodes []api.Node
	open  []int
	first map[string]int
}

func newBuilder() builder {
	return builder{
		nodes: []api.Node{{Kind: api.Root, Up: -1}},
		open:  []int{0},
		first: map[string]int{},
	}
}

func (b *builder) add(t token.Token) api.Errno {
	switch t.Kind {
	case token.Start:
		return b.start(t)
	case token.End:
		b.end(t.Name)
	case token.Text:
		return b.text(t.Text)
	}
	return api.OK
}

func (b *builder) start(t token.Token) api.Errno {
	if at, is := b.first[t.Name]; is {
		b.addAttrs(at, t.Attrs)
		return api.OK
	}
	names, walls := closedBy(t.Name)
	b.closeLast(names, append(walls, "body", "html"))
	at := len(b.nodes)
	if why := b.lay(api.Node{Kind: api.Element, Name: t.Name, Attrs: t.Attrs}); why != api.OK {
		return why
	}
	if t.Name == "html" || t.Name == "body" {
		b.first[t.Name] = at
	}
	if !isVoid(t.Name) {
		b.open = append(b.open, at)
	}
	return api.OK
}

func (b *builder) end(name string) {
	walls := []string{"table"}
	if name == "table" || name == "html" || name == "body" {
		walls = nil
	}
	b.closeLast([]string{name}, walls)
}

func (b *builder) text(s string) api.Errno {
	kids := b.nodes[b.last()].Kids
	if len(kids) > 0 {
		if before := &b.nodes[kids[len(kids)-1]]; before.Kind == api.Text {
			before.Text += s
			return api.OK
		}
	}
	return b.lay(api.Node{Kind: api.Text, Text: s})
}

// addAttrs gives a node those attributes that it has not.
func (b *builder) addAttrs(at int, attrs []api.Attr) {
	n := &b.nodes[at]
	for _, attr := range attrs {
		isThere := func(a api.Attr) bool { return a.Name == attr.Name }
		if len(n.Attrs) < maxAttrs && !slices.ContainsFunc(n.Attrs, isThere) {
			n.Attrs = append(n.Attrs, attr)
		}
	}
}

// lay lays a node into the last open one. All open ones lie in one another, so that they are just those above it.
func (b *builder) lay(n api.Node) api.Errno {
	if len(b.nodes) == api.MaxNodes {
		return api.ErrMany
	}
	if len(b.open) > api.MaxDeep {
		return api.ErrDeep
	}
	n.Up = b.last()
	b.nodes[n.Up].Kids = append(b.nodes[n.Up].Kids, len(b.nodes))
	b.nodes = append(b.nodes, n)
	return api.OK
}

// last is the place of the last open one.
func (b *builder) last() int { return b.open[len(b.open)-1] }

// closeLast closes the last open one of those names, with all that is open behind it, if no wall is among these.
func (b *builder) closeLast(names, walls []string) {
	for i := len(b.open) - 1; i > 0; i-- {
		name := b.nodes[b.open[i]].Name
		if slices.Contains(names, name) {
			b.open = b.open[:i]
			return
		}
		if slices.Contains(walls, name) {
			return
		}
	}
}

// closedBy are the names of which a start tag closes the last open one, and the walls that keep it from that.
func closedBy(name string) (names, walls []string) {
	switch name {
	case "li":
		return []string{"li"}, []string{"ol", "ul"}
	case "dt", "dd":
		return []string{"dt", "dd"}, []string{"dl"}
	case "option":
		return []string{"option"}, []string{"select"}
	case "tr":
		return []string{"tr"}, []string{"table"}
	case "td", "th":
		return []string{"td", "th"}, []string{"tr", "table"}
	}
	if isBlock(name) {
		return []string{"p"}, []string{"button", "table", "td", "th", "li", "object"}
	}
	return nil, nil
}

func isBlock(name string) bool {
	switch name {
	case "address", "article", "aside", "blockquote", "details", "div", "dl", "fieldset", "figure", "footer", "form",
		"h1", "h2", "h3", "h4", "h5", "h6", "header", "hr", "main", "nav", "ol", "p", "pre", "section", "table", "ul":
		return true
	}
	return false
}

func isVoid(name string) bool {
	switch name {
	case "area", "base", "br", "col", "embed", "hr", "img", "input", "link", "meta", "param", "source", "track", "wbr":
		return true
	}
	return false
}
