package mf_test

import (
	"regexp"
	"slices"

	"cringle/api"
	"cringle/imply"
	"cringle/join"
	"cringle/look"
	"cringle/value"
)

// What the chapter's words say, written out once more: each element is asked by itself, by the layers below.

var propertyForm = regexp.MustCompile(`^(p|u|dt|e)-([a-z](?:[-a-z0-9]*[a-z0-9])?)$`)

func isRoot(d api.Doc, at int) bool { return len(imply.Roots(d, at)) > 0 }

// belongs are the elements below a root, but those that have a root above them that is below it, too.
func belongs(d api.Doc, at int) []int {
	var all []int
	for _, i := range look.Below(d, at) {
		up := d.Nodes[i].Up
		for up != at && !isRoot(d, up) {
			up = d.Nodes[up].Up
		}
		if up == at {
			all = append(all, i)
		}
	}
	return all
}

// classesOf are the prefixes and names of properties' classes.
func classesOf(d api.Doc, at int) [][2]string {
	var all [][2]string
	for _, class := range look.Words(d, at, "class") {
		if m := propertyForm.FindStringSubmatch(class); m != nil {
			all = append(all, [2]string{m[1], m[2]})
		}
	}
	return all
}

func wordedTold(d api.Doc, at int, prefix string, base api.URL) api.Got {
	switch prefix {
	case "p":
		return api.Got{Text: value.Text(d, at)}
	case "u":
		return api.Got{Text: value.URL(d, at, base)}
	case "dt":
		return api.Got{Text: value.Date(d, at)}
	}
	return api.Got{Text: look.Plain(d, at), HTML: look.HTML(d, at), IsE: true}
}

func wordedItems(d api.Doc, base api.URL) []api.Item { return itemsOf(d, 0, base) }

func itemsOf(d api.Doc, at int, base api.URL) []api.Item {
	var all []api.Item
	for _, kid := range look.Kids(d, at) {
		if isRoot(d, kid) {
			all = append(all, itemOf(d, kid, base))
		} else {
			all = append(all, itemsOf(d, kid, base)...)
		}
	}
	return all
}

func hasProp(i api.Item, name string) bool {
	return slices.ContainsFunc(i.Props, func(p api.Prop) bool { return p.Name == name })
}

func with(i api.Item, name string, v api.Got) api.Item {
	for at := range i.Props {
		if i.Props[at].Name == name {
			i.Props[at].Vals = append(i.Props[at].Vals, v)
			return i
		}
	}
	i.Props = append(i.Props, api.Prop{Name: name, Vals: []api.Got{v}})
	return i
}

func itemOf(d api.Doc, at int, base api.URL) api.Item {
	i := api.Item{Types: imply.Roots(d, at)}
	i.Id, _ = look.Attr(d, at, "id")
	gave := map[string]bool{}
	roots := 0
	for _, own := range belongs(d, at) {
		classes := classesOf(d, own)
		if isRoot(d, own) {
			roots++
			if len(classes) == 0 {
				i.Kids = append(i.Kids, itemOf(d, own, base))
			}
		}
		for _, class := range classes {
			gave[class[0]] = true
			v := wordedTold(d, own, class[0], base)
			if isRoot(d, own) {
				of := itemOf(d, own, base)
				for _, p := range of.Props {
					if class[0] == "p" && p.Name == "name" || class[0] == "u" && p.Name == "url" {
						v = api.Got{Text: p.Vals[0].Text}
					}
				}
				v.Item = []api.Item{of}
			}
			i = with(i, class[1], v)
		}
	}
	if !hasProp(i, "name") && !gave["p"] && !gave["e"] && roots == 0 {
		i = with(i, "name", api.Got{Text: imply.Name(d, at)})
	}
	if photo, is := imply.Photo(d, at, base); is && !hasProp(i, "photo") && !gave["u"] && roots == 0 {
		i = with(i, "photo", api.Got{Text: photo})
	}
	if link, is := imply.Link(d, at, base); is && !hasProp(i, "url") && !gave["u"] && roots == 0 {
		i = with(i, "url", api.Got{Text: link})
	}
	return i
}

func wordedBase(d api.Doc, at api.URL) api.URL {
	for _, place := range look.Below(d, 0) {
		href, is := look.Attr(d, place, "href")
		if d.Nodes[place].Name != "base" || !is {
			continue
		}
		if u, why := join.Join(at, href); why == api.OK {
			return u
		}
		return at
	}
	return at
}

func wordedAll(l []api.Item, typ string) []api.Item {
	var all []api.Item
	for _, i := range l {
		for _, t := range i.Types {
			if t == typ {
				all = append(all, i)
				break
			}
		}
		for _, p := range i.Props {
			for _, v := range p.Vals {
				all = append(all, wordedAll(v.Item, typ)...)
			}
		}
		all = append(all, wordedAll(i.Kids, typ)...)
	}
	return all
}
