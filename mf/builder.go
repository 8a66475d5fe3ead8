package mf

import (
	"cringle/api"
	"cringle/imply"
)

// builder makes the item of one of a page's roots.
type builder struct {
	page
	parts
	at     int
	made   api.Item
	places map[string]int // where a property stands in made
	has    kinds
}

// kinds is of which kinds something belongs to an item: these hinder that others are implied.
type kinds struct{ text, link, root bool }

// take takes what belongs to the item.
func (b *builder) take(at int) {
	classes := properties(b.Nodes[at])
	if _, is := b.roots[at]; is {
		b.takeRoot(at, classes)
		return
	}
	b.takeAll(classes, func(prefix string) api.Got { return b.tell(prefix, at) })
}

// takeRoot takes a root: as a value of its properties, or else as one of the Kids.
func (b *builder) takeRoot(at int, classes []property) {
	b.has.root = true
	item := b.item(at)
	if len(classes) == 0 {
		b.made.Kids = append(b.made.Kids, item.list...)
		b.add(item.parts)
		return
	}
	b.takeAll(classes, func(prefix string) api.Got {
		v := b.tellRoot(prefix, at, item.list[0])
		v.Item = item.list
		return v
	})
	for range classes {
		b.add(item.parts)
	}
}

// tellRoot is what a root tells by a prefix: its item's name or URL, if it has that.
func (b *builder) tellRoot(prefix string, at int, item api.Item) api.Got {
	var own []api.Got
	switch prefix {
	case "p":
		own = values(item, "name")
	case "u":
		own = values(item, "url")
	}
	if len(own) > 0 {
		return api.Got{Text: own[0].Text}
	}
	return b.tell(prefix, at)
}

// takeAll takes a value for each class. What is told hangs on the prefix alone, and is asked for once.
func (b *builder) takeAll(classes []property, tell func(prefix string) api.Got) {
	told := map[string]api.Got{}
	for _, class := range classes {
		v, is := told[class.prefix]
		if !is {
			v = tell(class.prefix)
			told[class.prefix] = v
		}
		b.put(class.name, v)
		b.has.text = b.has.text || class.prefix == "p" || class.prefix == "e"
		b.has.link = b.has.link || class.prefix == "u"
	}
}

// put puts a value behind the others of its property.
func (b *builder) put(name string, v api.Got) {
	place, is := b.places[name]
	if !is {
		place = len(b.made.Props)
		b.places[name] = place
		b.made.Props = append(b.made.Props, api.Prop{Name: name})
		b.add(1)
	}
	p := &b.made.Props[place]
	p.Vals = append(p.Vals, v)
	b.add(1)
}

// implied puts what is implied behind the rest.
func (b *builder) implied() {
	if b.has.root {
		return
	}
	if !b.had("name") && !b.has.text {
		b.put("name", api.Got{Text: imply.Name(b.Doc, b.at)})
	}
	if b.has.link {
		return
	}
	b.putLink("photo", imply.Photo)
	b.putLink("url", imply.Link)
}

func (b *builder) had(name string) bool {
	_, is := b.places[name]
	return is
}

// putLink puts a link that is implied, if there is one.
func (b *builder) putLink(name string, tell func(d api.Doc, at int, base api.URL) (string, bool)) {
	if b.had(name) {
		return
	}
	if link, is := tell(b.Doc, b.at, b.base); is {
		b.put(name, api.Got{Text: link})
	}
}
