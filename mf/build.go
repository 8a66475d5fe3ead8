package mf

import (
	"strings"

	"cringle/api"
	"cringle/ascii"
	"cringle/imply"
	"cringle/look"
	"cringle/value"
)

// mostItems is how many roots a document may have.
const mostItems = 512

// mostParts is how many items, properties and values are answered. A root of two properties' classes stands twice in the item it belongs to, so that roots in roots are soon more than any memory holds: at some 128 bytes each, these are what the document's limits leave.
const mostParts = 1 << 24

// document is a tree whose links hang on a base.
type document struct {
	api.Doc
	base api.URL
}

// page is a document of which the roots are known by their places.
type page struct {
	document
	roots map[int]root
}

// root is what its classes say, and what belongs to it.
type root struct {
	types []string
	own   []int
}

// newPage is the page of a tree. Elements are met behind those they lie in.
func newPage(d document) page {
	p := page{d, map[int]root{}}
	// In which root what lies in an element belongs; 0: in none.
	under := make([]int, len(d.Nodes))
	for _, at := range look.Below(d.Doc, 0) {
		above := under[d.Nodes[at].Up]
		if above > 0 {
			r := p.roots[above]
			r.own = append(r.own, at)
			p.roots[above] = r
		}
		under[at] = above
		if types := d.types(at); len(types) > 0 {
			p.roots[at] = root{types: types}
			under[at] = at
		}
	}
	return p
}

// types are the classes that make an element a root. Layer 16 goes through the whole tree for each answer, so that most elements are passed over ahead of it.
func (d document) types(at int) []string {
	class, _ := attr(d.Nodes[at], "class")
	if !strings.Contains(class, "h-") {
		return nil
	}
	return imply.Roots(d.Doc, at)
}

// attr is a node's first attribute of a name. It is read here, as look goes through the whole tree for each answer.
func attr(n api.Node, name string) (string, bool) {
	for _, a := range n.Attrs {
		if a.Name == name {
			return a.Value, true
		}
	}
	return "", false
}

// parts is how many parts there are: more than the most are as many as one more.
type parts int

func (p *parts) add(more parts) { *p = min(*p+more, mostParts+1) }

// built are items, and how many parts they have. What is built of one root is shared by all values that have it.
type built struct {
	list []api.Item
	parts
}

// items are the items of a node.
func (p page) items(at int) built {
	var all built
	for _, kid := range p.Nodes[at].Kids {
		more := p.itemsAt(kid)
		all.list = append(all.list, more.list...)
		all.add(more.parts)
	}
	return all
}

func (p page) itemsAt(at int) built {
	if _, is := p.roots[at]; is {
		return p.item(at)
	}
	return p.items(at)
}

// item is the item of a root.
func (p page) item(at int) built {
	b := builder{page: p, at: at, places: map[string]int{}}
	r := p.roots[at]
	b.made.Types = r.types
	b.made.Id, _ = attr(p.Nodes[at], "id")
	b.add(1)
	for _, own := range r.own {
		b.take(own)
	}
	b.implied()
	return built{[]api.Item{b.made}, b.parts}
}

// property is a property's class.
type property struct{ prefix, name string }

// properties are an element's properties' classes, each once.
func properties(n api.Node) []property {
	class, _ := attr(n, "class")
	var all []property
	met := map[property]struct{}{}
	for _, word := range ascii.Words(class) {
		prefix, name, _ := strings.Cut(word, "-")
		p := property{prefix, name}
		if _, is := met[p]; is || !p.may() {
			continue
		}
		met[p] = struct{}{}
		all = append(all, p)
	}
	return all
}

func (p property) may() bool {
	switch p.prefix {
	case "p", "u", "dt", "e":
		return imply.IsName(p.name)
	}
	return false
}

// tell is what an element tells by a prefix.
func (d document) tell(prefix string, at int) api.Got {
	switch prefix {
	case "p":
		return api.Got{Text: value.Text(d.Doc, at)}
	case "u":
		return api.Got{Text: value.URL(d.Doc, at, d.base)}
	case "dt":
		return api.Got{Text: value.Date(d.Doc, at)}
	}
	return api.Got{Text: look.Plain(d.Doc, at), HTML: look.HTML(d.Doc, at), IsE: true}
}
