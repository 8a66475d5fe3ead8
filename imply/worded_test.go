package imply_test

import (
	"regexp"
	"slices"
	"strings"

	"cringle/api"
	"cringle/join"
	"cringle/look"
	"cringle/url"
)

// What the chapter's words say, written out once more: each element is asked by itself, by layer 14 and by patterns.

const blanks = "\t\n\f\r "

var nameForm = regexp.MustCompile(`^[a-z]([-a-z0-9]*[a-z0-9])?$`)

func wordedIsName(s string) bool { return nameForm.MatchString(s) && !strings.Contains(s, "\n") }

func wordedRoots(d api.Doc, at int) []string {
	var all []string
	for _, class := range look.Words(d, at, "class") {
		if strings.HasPrefix(class, "h-") && wordedIsName(class[2:]) {
			all = append(all, class)
		}
	}
	slices.Sort(all)
	return all
}

func isRoot(d api.Doc, at int) bool { return len(wordedRoots(d, at)) > 0 }

// way are the only ways down, one behind the other, as far as they lead.
func way(d api.Doc, at int) []int {
	var all []int
	for {
		kids := look.Kids(d, at)
		if len(kids) != 1 || isRoot(d, kids[0]) {
			return all
		}
		at = kids[0]
		all = append(all, at)
	}
}

func wordedName(d api.Doc, at int) string {
	has := func(at int) (string, bool) {
		switch d.Nodes[at].Name {
		case "img", "area":
			return look.Attr(d, at, "alt")
		case "abbr":
			return look.Attr(d, at, "title")
		}
		return "", false
	}
	name := look.Plain(d, at)
	down := way(d, at)
	for i := min(len(down), 2) - 1; i >= 0; i-- {
		if s, is := has(down[i]); is && s != "" {
			name = s
		}
	}
	if s, is := has(at); is {
		name = s
	}
	return strings.Trim(name, blanks)
}

// with are those places at which an element of a name has an attribute.
func with(d api.Doc, places []int, name, attr string) []int {
	var all []int
	for _, at := range places {
		if _, is := look.Attr(d, at, attr); is && d.Nodes[at].Name == name {
			all = append(all, at)
		}
	}
	return all
}

// wordedLinked goes through the places that may tell a link, in order. Pairs are a name and its attribute.
func wordedLinked(d api.Doc, at int, base api.URL, pairs ...[2]string) (string, bool) {
	places := [][]int{{at}, look.Kids(d, at), nil}
	if down := way(d, at); len(down) > 0 {
		places[2] = look.Kids(d, down[0])
	}
	for i, among := range places {
		for _, pair := range pairs {
			found := with(d, among, pair[0], pair[1])
			if len(found) != 1 || i > 0 && isRoot(d, found[0]) {
				continue
			}
			link, _ := look.Attr(d, found[0], pair[1])
			link = strings.Trim(link, blanks)
			if u, why := join.Join(base, link); why == api.OK {
				return url.String(u), true
			}
			return link, true
		}
	}
	return "", false
}

func wordedPhoto(d api.Doc, at int, base api.URL) (string, bool) {
	return wordedLinked(d, at, base, [2]string{"img", "src"}, [2]string{"object", "data"})
}

func wordedLink(d api.Doc, at int, base api.URL) (string, bool) {
	return wordedLinked(d, at, base, [2]string{"a", "href"}, [2]string{"area", "href"})
}
