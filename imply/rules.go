package imply

import "cringle/api"

// rule is which attribute elements of a name tell.
type rule struct{ name, attr string }

// first is what the first rule tells that tells something. How it tells is the caller's to say. No element's place tells nothing.
func first(d api.Doc, at int, tell func(rule, api.Doc, int) (string, bool), rules ...rule) (string, bool) {
	if at < 0 {
		return "", false
	}
	for _, r := range rules {
		if s, is := tell(r, d, at); is {
			return s, true
		}
	}
	return "", false
}

// itself is what an element itself tells.
func (r rule) itself(d api.Doc, at int) (string, bool) {
	n := d.Nodes[at]
	if n.Name != r.name {
		return "", false
	}
	return attr(n, r.attr)
}

// alone is what the one tells that lies in an element and is alone in telling something. Roots are among those that hinder it, but tell nothing.
func (r rule) alone(d api.Doc, at int) (string, bool) {
	var told string
	count := 0
	for _, kid := range d.Nodes[at].Kids {
		s, is := r.itself(d, kid)
		if !is {
			continue
		}
		if len(roots(d.Nodes[kid])) > 0 || count > 0 {
			return "", false
		}
		told, count = s, 1
	}
	return told, count == 1
}

// attr is a node's first attribute of a name. It is read here, as look goes through the whole tree for each answer.
func attr(n api.Node, name string) (string, bool) {
	for _, a := range n.Attrs {
		if a.Name == name {
			return a.Value, true
		}
	}
	return "", false
}
