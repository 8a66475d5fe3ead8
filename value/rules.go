package value

import (
	"slices"
	"strings"

	"cringle/api"
	"cringle/ascii"
)

// rule is which attribute elements of some names tell.
type rule struct {
	attr  string
	names []string
}

func of(attr string, names ...string) rule { return rule{attr, names} }

// first is what the first rule tells that holds of a node: one of its names, that has its attribute.
func first(n api.Node, rules ...rule) (string, bool) {
	for _, r := range rules {
		if !slices.Contains(r.names, n.Name) {
			continue
		}
		if s, is := attr(n, r.attr); is {
			return s, true
		}
	}
	return "", false
}

// attr is a node's first attribute of a name. It is read here, as look goes through the whole tree for each answer.
func attr(n api.Node, name string) (string, bool) {
	for _, a := range n.Attrs {
		if a.Name == name {
			return a.Value, true
		}
	}
	return "", false
}

func classes(n api.Node) []string {
	value, _ := attr(n, "class")
	return ascii.Words(value)
}

// isPart tells whether a node has a class of parts.
func isPart(n api.Node) bool {
	return slices.ContainsFunc(classes(n), func(class string) bool { return class == "value" || class == "value-title" })
}

// isProperty tells whether it has a class of items or of properties.
func isProperty(n api.Node) bool {
	return slices.ContainsFunc(classes(n), func(class string) bool {
		prefix, name, _ := strings.Cut(class, "-")
		return name != "" && slices.Contains([]string{"h", "p", "u", "dt", "e"}, prefix)
	})
}
