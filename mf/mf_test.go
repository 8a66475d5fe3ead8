package mf_test

import (
	"fmt"
	"math/rand"
	"slices"
	"strings"
	"testing"
	"unsafe"

	"cringle/api"
	"cringle/imply"
	"cringle/mf"
	"cringle/tree"
	"cringle/url"
)

func parse(t *testing.T, s string) api.Doc {
	t.Helper()
	d, why := tree.Parse(s)
	if why != api.OK {
		t.Fatalf("Parse(%.80q): %v", s, why)
	}
	return d
}

const base = "http://ex.org/a/b?c#d"

func at(t *testing.T, s string) api.URL {
	t.Helper()
	u, why := url.Parse(s)
	if why != api.OK {
		t.Fatalf("Parse(%.80q): %v", s, why)
	}
	return u
}

// made is a tree of nodes whose Kids are found by their Ups.
func made(nodes ...api.Node) api.Doc {
	d := api.Doc{Nodes: append([]api.Node{{Kind: api.Root, Up: -1}}, nodes...)}
	for at, n := range d.Nodes {
		if n.Up >= 0 {
			d.Nodes[n.Up].Kids = append(d.Nodes[n.Up].Kids, at)
		}
	}
	return d
}

func element(up int, name string, pairs ...string) api.Node {
	n := api.Node{Kind: api.Element, Name: name, Up: up}
	for i := 0; i < len(pairs); i += 2 {
		n.Attrs = append(n.Attrs, api.Attr{Name: pairs[i], Value: pairs[i+1]})
	}
	return n
}

func text(up int, s string) api.Node { return api.Node{Kind: api.Text, Text: s, Up: up} }

// copied shares nothing with its tree.
func copied(d api.Doc) api.Doc {
	nodes := slices.Clone(d.Nodes)
	for i := range nodes {
		nodes[i].Attrs = slices.Clone(nodes[i].Attrs)
		nodes[i].Kids = slices.Clone(nodes[i].Kids)
	}
	return api.Doc{Nodes: nodes}
}

// lists calls use at all lists of at most most of the parts.
func lists(most int, use func(...string), parts ...string) {
	var on func([]string, int)
	on = func(list []string, left int) {
		use(list...)
		if left == 0 {
			return
		}
		for _, part := range parts {
			on(append(list[:len(list):len(list)], part), left-1)
		}
	}
	on(nil, most)
}

// shown is a short text of items: types, #id, in braces properties with values, in brackets Kids.
func shown(l []api.Item) string {
	var all []string
	for _, i := range l {
		s := strings.Join(i.Types, " ")
		if i.Id != "" {
			s += "#" + i.Id
		}
		var props []string
		for _, p := range i.Props {
			props = append(props, p.Name+":"+shownValues(p.Vals))
		}
		s += "{" + strings.Join(props, " ") + "}"
		if len(i.Kids) > 0 {
			s += "[" + shown(i.Kids) + "]"
		}
		if i.Shape != "" {
			s += "!" + i.Shape
		}
		all = append(all, s)
	}
	return strings.Join(all, " ")
}

func shownValues(l []api.Got) string {
	var all []string
	for _, v := range l {
		s := fmt.Sprintf("%q", v.Text)
		if v.IsE {
			s += fmt.Sprintf("=%q", v.HTML)
		} else if v.HTML != "" {
			s += "?"
		}
		if v.Item != nil {
			s += "(" + shown(v.Item) + ")"
		}
		all = append(all, s)
	}
	return strings.Join(all, ",")
}

// P17.1
func TestBase(t *testing.T) {
	for _, c := range []struct{ s, want string }{
		{"", base},
		{"<p>x</p>", base},
		{"<base>", base},
		{"<base href=/x/y>", "http://ex.org/x/y"},
		{"<base href=z>", "http://ex.org/a/z"},
		{"<base href=>", "http://ex.org/a/b?c"},
		{"<base href>", "http://ex.org/a/b?c"},
		{"<base href='#e'>", "http://ex.org/a/b?c#e"},
		{"<base href='https://a.b/c?d#e'>", "https://a.b/c?d#e"},
		// The first one that has one.
		{"<base target=x><base href=x>", "http://ex.org/a/x"},
		{"<base href=x><base href=y>", "http://ex.org/a/x"},
		{"<p><b><base href=x></b></p><base href=y>", "http://ex.org/a/x"},
		{"<a href=z></a><link href=z><base href=x>", "http://ex.org/a/x"},
		{"<p>x<base href=y></p>", "http://ex.org/a/y"},
		{"<BASE HREF=x>", "http://ex.org/a/x"},
		// An error leaves the URL, whatever comes behind.
		{"<base href='http://:1'>", base},
		{"<base href='mailto:x'><base href=x>", base},
	} {
		d := parse(t, c.s)
		u := at(t, base)
		if got := url.String(mf.Base(d, u)); got != c.want {
			t.Errorf("Base of %q is %q, want %q", c.s, got, c.want)
		}
		if got := mf.Base(d, u); got != wordedBase(d, u) {
			t.Errorf("Base of %q is %+v", c.s, got)
		}
	}
	// A URL that may not be is answered as it is.
	bad := api.URL{Scheme: "x", Path: "y"}
	if got := mf.Base(parse(t, "<base href=x>"), bad); got != bad {
		t.Errorf("%+v", got)
	}
	if got := mf.Base(parse(t, "<base href=http://a.b/>"), bad); got != bad {
		t.Errorf("%+v", got)
	}
	// Nor is anything told by what is no tree.
	d := made(element(0, "base", "href", "/x"))
	d.Nodes[0].Up = 0
	for _, d := range []api.Doc{d, {}} {
		if got := mf.Base(d, at(t, base)); got != at(t, base) {
			t.Errorf("%+v", got)
		}
	}
	// Names stand letter by letter, the first href counts.
	d = made(element(0, "BASE", "href", "/x"), element(0, "base", "Href", "/x"), element(0, "base", "href", "/y", "href", "/x"))
	if got := mf.Base(d, at(t, base)).Path; got != "/y" {
		t.Errorf("%q", got)
	}
}

// P17.1
func TestItems(t *testing.T) {
	for _, c := range []struct{ s, want string }{
		{`<div class="h-entry"><p class="p-name">A</p></div>`, `h-entry{name:"A"}`},
		{"", ""},
		{"x<p class=p-name>y</p>", ""},
		{"<p class='h- h-A'>y</p>", ""},
		// Items of the Root: in order, also of elements that are none.
		{"<b class=h-b>1</b><p><i><b class=h-a>2</b></i>x<b class=h-c>3</b></p><b class=h-a>4</b>", `h-b{name:"1"} h-a{name:"2"} h-c{name:"3"} h-a{name:"4"}`},
		{"<p class=p-x><b class=h-a>2</b></p>", `h-a{name:"2"}`},
		{"<b class='h-a p-x'>2</b>", `h-a{name:"2"}`},
		// Types rise, each once; the Id is as it stands.
		{"<b class='h-b h-a h-b' id=' x '>1</b>", `h-a h-b# x {name:"1"}`},
		{"<b class='h-a' id>1</b>", `h-a{name:"1"}`},
		// What each prefix tells.
		{"<b class=h-a><abbr class=p-x title=' y '>z</abbr></b>", `h-a{x:" y "}`},
		{"<b class=h-a><a class=u-x href=' y '>z</a></b>", `h-a{x:"http://ex.org/a/y" name:"z"}`},
		{"<b class=h-a><time class=dt-x datetime=' y '>z</time></b>", `h-a{x:"y" name:"z"}`},
		{"<b class=h-a><i class=e-x> y<br><u>z</u> </i></b>", `h-a{x:"y\nz"="y<br><u>z</u>"}`},
		{"<b class=h-a><i class=e-x></i></b>", `h-a{x:""=""}`},
		{"<b class=h-a><i class=p-x></i></b>", `h-a{x:""}`},
		{"<b class=h-a><i class=u-x></i></b>", `h-a{x:"http://ex.org/a/b?c" name:""}`},
		{"<b class=h-a><i class=p-x>y<s class=value>z</s></i></b>", `h-a{x:"z"}`},
		{"<b class=h-a><i class=dt-x>y<s class=value>2020-02-29</s><s class=value>7pm</s></i></b>", `h-a{x:"2020-02-29 19:00:00" name:"y2020-02-297pm"}`},
		// Values of one name stand together, whatever the prefix, in order of the first ones.
		{"<b class=h-a><i class=p-x>1</i><i class=p-y>2</i><i class=u-x>3</i><i class='e-x p-z'>4</i></b>", `h-a{x:"1","http://ex.org/a/3","4"="4" y:"2" z:"4"}`},
		{"<b class=h-a><i class='p-y p-x e-y p-y p-x'>1</i></b>", `h-a{y:"1","1"="1" x:"1"}`},
		{"<b class=h-a><i class='p-x-y p-x1 p-p-x'>1</i></b>", `h-a{x-y:"1" x1:"1" p-x:"1"}`},
		// What is no property's class.
		{"<b class=h-a><i class='p- p-1 p-A P-x p-x- x-y dt e -p-x pp-x p_x ap-x d-x t-x h-- p--x'>1</i></b>", `h-a{name:"1"}`},
		// What lies in a property's element belongs, too.
		{"<b class=h-a><i class=p-x>1<s class=p-y>2</s></i></b>", `h-a{x:"12" y:"2"}`},
		{"<b class=h-a><i><u><s class=p-y>2</s></u></i></b>", `h-a{y:"2"}`},
		// A root with properties' classes is a value of each.
		{"<b class=h-a><i class='p-x h-b'>1</i></b>", `h-a{x:"1"(h-b{name:"1"})}`},
		{"<b class=h-a><i class='p-x h-b'>1<s class=p-name>2</s><s class=p-name>3</s></i></b>", `h-a{x:"2"(h-b{name:"2","3"})}`},
		{"<b class=h-a><i class='p-x h-b'>1<s class=p-y>2</s></i></b>", `h-a{x:"12"(h-b{y:"2"})}`},
		{"<b class=h-a><i class='p-x h-b'>1<s class=p-name></s></i></b>", `h-a{x:""(h-b{name:""})}`},
		{"<b class=h-a><i class='p-x h-b'>1<s class=e-name>2</s></i></b>", `h-a{x:"2"(h-b{name:"2"="2"})}`},
		{"<b class=h-a><a class='u-x h-b' href=y>1</a></b>", `h-a{x:"http://ex.org/a/y"(h-b{name:"1" url:"http://ex.org/a/y"})}`},
		{"<b class=h-a><a class='u-x h-b' href=y>1<s class=p-url>2</s></a></b>", `h-a{x:"2"(h-b{url:"2"})}`},
		{"<b class=h-a><a class='u-x h-b' href=y>1<s class=u-z>2</s></a></b>", `h-a{x:"http://ex.org/a/y"(h-b{z:"http://ex.org/a/2" name:"12"})}`},
		{"<b class=h-a><i class='dt-x h-b' title=z>1<s class=value>2020-02-29</s></i></b>", `h-a{x:"2020-02-29"(h-b{name:"12020-02-29"})}`},
		{"<b class=h-a><a class='e-x h-b' href=y>1<s class=p-name>2</s></a></b>", `h-a{x:"12"="1<s class=\"p-name\">2</s>"(h-b{name:"2" url:"http://ex.org/a/y"})}`},
		{"<b class=h-a><a class='p-x u-x h-b p-y' href=y>1</a></b>", `h-a{x:"1"(h-b{name:"1" url:"http://ex.org/a/y"}),"http://ex.org/a/y"(h-b{name:"1" url:"http://ex.org/a/y"}) y:"1"(h-b{name:"1" url:"http://ex.org/a/y"})}`},
		{"<b class=h-a><i class='p-x h-b'>1<s class='p-name h-c'>2</s></i></b>", `h-a{x:"2"(h-b{name:"2"(h-c{name:"2"})})}`},
		// One without is one of the Kids.
		{"<b class=h-a><i class=h-b>1</i>2<u><i class=h-c>3</i></u></b>", `h-a{}[h-b{name:"1"} h-c{name:"3"}]`},
		{"<b class=h-a><i class='h-b p-A x'>1</i><s class=p-x>2</s></b>", `h-a{x:"2"}[h-b{name:"1"}]`},
		// What lies in a root is that one's.
		{"<b class=h-a><i class=h-b>1<s class=p-x>2</s><s class=h-c>3</s></i><s class=p-x>4</s></b>", `h-a{x:"4"}[h-b{x:"2"}[h-c{name:"3"}]]`},
		{"<b class=h-a><i class=p-x><s class='h-b p-y'>1</s></i></b>", `h-a{x:"1" y:"1"(h-b{name:"1"})}`},
		// Links hang on the base that is handed in.
		{"<base href=/z/><b class=h-a><a class=u-x href=y></a></b>", `h-a{x:"http://ex.org/a/y" name:""}`},
	} {
		got, why := mf.Items(parse(t, c.s), at(t, base))
		if s := shown(got); s != c.want || why != api.OK {
			t.Errorf("Items of %q are\n%s, want\n%s (%v)", c.s, s, c.want, why)
		}
	}
}

// P17.1: what is implied.
func TestImplied(t *testing.T) {
	const photo, link = `photo:"http://ex.org/a/y"`, `url:"http://ex.org/a/z"`
	both := func(more string) string { return "<b class=h-a><img src=y alt=x><a href=z>w</a>" + more + "</b>" }
	for _, c := range []struct{ s, want string }{
		{"<a class=h-card href=/x><img src=i alt=A></a>", `h-card{name:"A" photo:"http://ex.org/a/i" url:"http://ex.org/x"}`},
		{"<b class=h-a></b>", `h-a{name:""}`},
		{both(""), `h-a{name:"xw" ` + photo + " " + link + `}`},
		// A name: a class of p- or e- hinders it, and a name of any class.
		{both("<i class=p-x>1</i>"), `h-a{x:"1" ` + photo + " " + link + `}`},
		{both("<i class=e-x>1</i>"), `h-a{x:"1"="1" ` + photo + " " + link + `}`},
		{both("<i class=dt-x>1</i>"), `h-a{x:"1" name:"xw1" ` + photo + " " + link + `}`},
		{both("<i class=dt-name>1</i>"), `h-a{name:"1" ` + photo + " " + link + `}`},
		{both("<i class=u-name>1</i>"), `h-a{name:"http://ex.org/a/1"}`},
		// A photo and a link: a class of u- hinders them, and one of that name hinders itself.
		{both("<i class=u-x>1</i>"), `h-a{x:"http://ex.org/a/1" name:"xw1"}`},
		{both("<i class=u-photo>1</i>"), `h-a{photo:"http://ex.org/a/1" name:"xw1"}`},
		{both("<i class=p-photo>1</i>"), `h-a{photo:"1" ` + link + `}`},
		{both("<i class=dt-photo>1</i>"), `h-a{photo:"1" name:"xw1" ` + link + `}`},
		{both("<i class=e-url>1</i>"), `h-a{url:"1"="1" ` + photo + `}`},
		{both("<i class=dt-url>1</i>"), `h-a{url:"1" name:"xw1" ` + photo + `}`},
		{both("<i class='p-photo p-url'>1</i>"), `h-a{photo:"1" url:"1"}`},
		// A root that belongs to it hinders all, whatever it is; one further down does not.
		{both("<i class=h-b>1</i>"), `h-a{}[h-b{name:"1"}]`},
		{both("<i class='h-b dt-x'>1</i>"), `h-a{x:"1"(h-b{name:"1"})}`},
		{both("<u><i class='h-b'>1</i></u>"), `h-a{}[h-b{name:"1"}]`},
		{"<b class=h-a><i class=h-b><a class=h-c href=z>1</a></i></b>", `h-a{}[h-b{}[h-c{name:"1" ` + link + `}]]`},
		// If there is none, none.
		{"<b class=h-a><a href=z>1</a></b>", `h-a{name:"1" ` + link + `}`},
		{"<b class=h-a><img src=y></b>", `h-a{name:"y" ` + photo + `}`},
		{"<b class=h-a><img src=y><img src=y></b>", `h-a{name:"y  y"}`},
	} {
		got, why := mf.Items(parse(t, c.s), at(t, base))
		if s := shown(got); s != c.want || why != api.OK {
			t.Errorf("Items of %q are\n%s, want\n%s (%v)", c.s, s, c.want, why)
		}
	}
}

// check holds a tree's items against the chapter's words, P17.3 and P17.4.
func check(t *testing.T, d api.Doc, u api.URL) {
	t.Helper()
	got, why := mf.Items(d, u)
	want := wordedItems(d, u)
	if why != api.OK || shown(got) != shown(want) || !mf.Same(got, want) {
		t.Fatalf("Items of %+v are\n%s, want\n%s (%v)", d, shown(got), shown(want), why)
	}
	if got := mf.Base(d, u); got != wordedBase(d, u) {
		t.Fatalf("Base of %+v is %+v", d, got)
	}
	for _, typ := range []string{"h-a", "h-b", "h-x", ""} {
		if got, want := mf.All(got, typ), wordedAll(want, typ); shown(got) != shown(want) {
			t.Fatalf("All %s of %+v are\n%s, want\n%s", typ, d, shown(got), shown(want))
		}
	}
	each(got, func(i api.Item) {
		if len(i.Types) == 0 || !slices.IsSorted(i.Types) || len(slices.Compact(slices.Clone(i.Types))) != len(i.Types) {
			t.Fatalf("Types of an item of %+v are %q", d, i.Types)
		}
		for _, p := range i.Props {
			if len(p.Vals) == 0 || !slices.EqualFunc(mf.Get(i, p.Name), p.Vals, sameValue) {
				t.Fatalf("a property of %+v has the values %s", d, shownValues(p.Vals))
			}
			if first, is := mf.First(i, p.Name); !is || !sameValue(first, p.Vals[0]) {
				t.Fatalf("a property of %+v has first %+v", d, first)
			}
		}
	})
}

func sameValue(a, b api.Got) bool {
	return shownValues([]api.Got{a}) == shownValues([]api.Got{b})
}

// each calls use at all items, also those within others.
func each(l []api.Item, use func(api.Item)) {
	for _, i := range l {
		use(i)
		for _, p := range i.Props {
			for _, v := range p.Vals {
				each(v.Item, use)
			}
		}
		each(i.Kids, use)
	}
}

// P17.1 to P17.4: of all short documents.
func TestShort(t *testing.T) {
	u := at(t, base)
	for _, tags := range [][]string{
		{"<b class=h-a>", "<b class='h-b p-name'>", "<b class=p-name>", "<b class=u-url>", "<b>", "</b>", "x"},
		{"<a class='h-a u-x' href=y>", "<a class='h-b p-x h-a' href=z>", "</a>", "<img class=u-photo src=x>", "<img src=y alt=z>", "<b class='dt-url e-x'>", "</b>"},
	} {
		lists(5, func(parts ...string) { check(t, parse(t, strings.Join(parts, "")), u) }, tags...)
	}
}

// tags are those of documents by chance.
func tagsByChance(chance *rand.Rand, most int) string {
	one := func(of ...string) string { return of[chance.Intn(len(of))] }
	var s strings.Builder
	for range chance.Intn(most) {
		switch chance.Intn(4) {
		case 0:
			s.WriteString(one("</b>", "</p>", "</a>", "</i>", "</div>"))
		case 1:
			s.WriteString(one("x", " y ", "&amp;", "2020-02-29", "<br>", "<img src=x>", "<img alt=x src=' y '>"))
		default:
			fmt.Fprintf(&s, "<%s class='%s %s' %s>", one("b", "p", "a", "i", "div", "div", "abbr", "time", "object", "data"),
				one("", "h-a", "h-b", "h-b h-a", "p-A", "p-name", "h-a", "h-"), one("", "", "p-name", "u-url", "u-x p-x", "dt-x", "e-x", "e-name dt-y", "value", "p-photo", "dt-url", "p-x p-x"),
				one("", "", "href=x", "title=y", "id=z", "datetime=2020-02-29", "value=v data=w"))
		}
	}
	return s.String()
}

// P17.1 to P17.4: of documents by chance.
func TestDocuments(t *testing.T) {
	chance := rand.New(rand.NewSource(17))
	u := at(t, base)
	for range 20000 {
		s := tagsByChance(chance, 14)
		if chance.Intn(3) == 0 {
			s += "<base href=/z/>" + tagsByChance(chance, 4)
		}
		d := parse(t, s)
		check(t, d, u)
		got, why := mf.Parse(s, u)
		if want := wordedItems(d, wordedBase(d, u)); why != api.OK || shown(got) != shown(want) {
			t.Fatalf("Parse of %q is\n%s, want\n%s (%v)", s, shown(got), shown(want), why)
		}
	}
}

// P17.1 to P17.4: of trees that were not parsed. Void ones have something in them, attributes come again, and what lies in a node does not stand together.
func TestTrees(t *testing.T) {
	chance := rand.New(rand.NewSource(18))
	one := func(of ...string) string { return of[chance.Intn(len(of))] }
	u := at(t, base)
	for i := range 20000 {
		free := []int{0}
		var nodes []api.Node
		for range chance.Intn(4 + i%10) {
			up := free[chance.Intn(len(free))]
			if chance.Intn(5) == 0 {
				nodes = append(nodes, text(up, one("x", " ", "\u00a0", "\xff")))
				continue
			}
			n := element(up, one("p", "b", "img", "abbr", "a", "object", "IMG", "base", "script"))
			for range chance.Intn(4) {
				n.Attrs = append(n.Attrs, api.Attr{
					Name:  one("class", "class", "alt", "title", "href", "src", "id", "Class"),
					Value: one("", " ", "h-a", "h-b\th-a", "h-a p-x", "u-url h-b e-y", "p-name", "u-x dt-x u-x", "/x y", "\xff", "http://:1 "),
				})
			}
			nodes = append(nodes, n)
			free = append(free, len(nodes))
		}
		d := made(nodes...)
		if !tree.May(d) {
			t.Fatalf("%+v may not be", d)
		}
		check(t, d, u)
		check(t, d, api.URL{})
	}
}

// P17.1: a tree that may not be has nothing.
func TestNoTree(t *testing.T) {
	whole := made(element(0, "b", "class", "h-a"), text(1, "x"))
	for what, turn := range map[string]func(n []api.Node){
		"Root's kind":       func(n []api.Node) { n[0].Kind = api.Element },
		"Root's Up":         func(n []api.Node) { n[0].Up = 0 },
		"another kind":      func(n []api.Node) { n[1].Kind = 4 },
		"no name":           func(n []api.Node) { n[1].Name = "" },
		"an Element's Text": func(n []api.Node) { n[1].Text = "x" },
		"an empty Text":     func(n []api.Node) { n[2].Text = "" },
		"a Kid past it":     func(n []api.Node) { n[0].Kids = []int{1, 3} },
		"a Kid below 0":     func(n []api.Node) { n[0].Kids = []int{-1} },
		"a Kid twice":       func(n []api.Node) { n[0].Kids = []int{1, 1} },
		"itself as a Kid":   func(n []api.Node) { n[1].Kids = []int{1, 2} },
		"in itself":         func(n []api.Node) { n[1].Up, n[1].Kids, n[0].Kids = 1, []int{1, 2}, nil },
		"an Up past it":     func(n []api.Node) { n[1].Up = 3 },
	} {
		d := copied(whole)
		turn(d.Nodes)
		if got, why := mf.Items(d, at(t, base)); len(got) != 0 || why != api.OK {
			t.Errorf("%s: %s, %v", what, shown(got), why)
		}
	}
	for _, d := range []api.Doc{{}, {Nodes: []api.Node{}}, made()} {
		if got, why := mf.Items(d, at(t, base)); len(got) != 0 || why != api.OK {
			t.Errorf("%s, %v", shown(got), why)
		}
	}
	many := made(slices.Repeat([]api.Node{element(0, "b", "class", "h-a")}, 4096)...)
	if got, why := mf.Items(many, at(t, base)); len(got) != 0 || why != api.OK {
		t.Errorf("%d items, %v", len(got), why)
	}
}

// P17.1, P17.4: 512 items in all, one beside another or one in another.
func TestMany(t *testing.T) {
	u := at(t, base)
	for _, count := range []int{512, 513, 4095} {
		for _, class := range []string{"h-a", "h-a h-b", "h-a p-x", "h-a u-x dt-y"} {
			var beside, within, deep []api.Node
			for i := range count {
				beside = append(beside, element(0, "b", "class", class))
				within = append(within, element(min(i, 1), "b", "class", class))
				deep = append(deep, element(i, "b", "class", strings.TrimSuffix(class, " dt-y")))
			}
			for _, d := range []api.Doc{made(beside...), made(within...), made(deep...)} {
				got, why := mf.Items(d, u)
				if count > 512 {
					if why != api.ErrMany || got != nil {
						t.Errorf("%d of %q: %v", count, class, why)
					}
					continue
				}
				if all := len(mf.All(got, "h-a")); why != api.OK || all < count || !strings.Contains(class, "dt") && all != count {
					t.Errorf("%d of %q: %d, %v", count, class, all, why)
				}
			}
		}
	}
	for count, want := range map[int]api.Errno{512: api.OK, 513: api.ErrMany} {
		if got, why := mf.Parse(strings.Repeat("<p class=h-a>x", count), u); why != want || (len(got) == count) != (want == api.OK) {
			t.Errorf("%d, %v", len(got), why)
		}
	}
}

// P17.1: layer 13's errors.
func TestParse(t *testing.T) {
	u := at(t, base)
	for _, c := range []struct {
		s    string
		want api.Errno
	}{
		{strings.Repeat("<b>", 64) + "<b class=h-a>", api.ErrDeep},
		{strings.Repeat("<b>", 63) + "<b class=h-a>", api.OK},
		{strings.Repeat("x", 1<<16+1), api.ErrMany},
		{"<p class=h-a>" + strings.Repeat("x", 1<<16-13), api.OK},
		{strings.Repeat("<br>", 4096), api.ErrMany},
		{"<p class=h-a>" + strings.Repeat("<br>", 4094), api.OK},
		// The tree's error goes ahead of too many items.
		{strings.Repeat("<p class=h-a>", 600) + strings.Repeat("<b>", 70), api.ErrDeep},
		{"\xff<p class=h-a>\xfe", api.OK},
	} {
		got, why := mf.Parse(c.s, u)
		if why != c.want || (len(got) == 1) != (why == api.OK) {
			t.Errorf("Parse of %.40q: %d, %v", c.s, len(got), why)
		}
		if _, of := tree.Parse(c.s); of != why {
			t.Errorf("Parse of %.40q: %v, the tree's %v", c.s, why, of)
		}
	}
	got, why := mf.Parse("<b class=h-a><a href=x>y</a></b><base href='/z/'>", u)
	if s := shown(got); s != `h-a{name:"y" url:"http://ex.org/z/x"}` || why != api.OK {
		t.Errorf("%s, %v", s, why)
	}
	if got, why := mf.Parse("<a class=h-a href=' x '>y</a><base href=/z/>", api.URL{}); shown(got) != `h-a{name:"y" url:"x"}` || why != api.OK {
		t.Errorf("%s, %v", shown(got), why)
	}
}

func got(s string, within ...api.Item) api.Got { return api.Got{Text: s, Item: within} }

func prop(name string, vals ...api.Got) api.Prop { return api.Prop{Name: name, Vals: vals} }

// P17.2
func TestGet(t *testing.T) {
	i := api.Item{
		Types: []string{"h-b", "h-a"},
		Props: []api.Prop{prop("x", got("1"), api.Got{Text: "2", HTML: "<b>", IsE: true}), prop("y"), prop("", got("3", api.Item{Id: "4"})), prop("x", got("5"))},
	}
	for name, want := range map[string]string{"x": `"1","2"="<b>"`, "y": "", "": `"3"({})`, "z": "", "X": ""} {
		l := mf.Get(i, name)
		if strings.ReplaceAll(shownValues(l), "#4", "") != want {
			t.Errorf("Get %q: %s", name, shownValues(l))
		}
		first, is := mf.First(i, name)
		if is != (want != "") || is && !sameValue(first, l[0]) || !is && (first.Text != "" || first.Item != nil) {
			t.Errorf("First %q: %+v, %v", name, first, is)
		}
	}
	if first, is := mf.First(i, ""); !is || first.Item[0].Id != "4" {
		t.Errorf("%+v", first)
	}
	if l, is := mf.First(api.Item{}, "x"); is || l.Text != "" || len(mf.Get(api.Item{}, "")) != 0 {
		t.Errorf("%+v", l)
	}
	for typ, want := range map[string]bool{"h-a": true, "h-b": true, "": false, "h-": false, "h-c": false, "H-a": false, "h-a h-b": false} {
		if mf.Is(i, typ) != want || mf.Is(api.Item{}, typ) {
			t.Errorf("Is %q", typ)
		}
	}
}

// P17.2
func TestAll(t *testing.T) {
	item := func(id, typ string, kids ...api.Item) api.Item {
		return api.Item{Id: id, Types: []string{typ}, Kids: kids}
	}
	b := item("3", "h-a")
	b.Props = []api.Prop{prop("x", got("", item("4", "h-a"), item("5", "h-b", item("6", "h-a"))))}
	a := item("1", "h-a", item("7", "h-a", item("8", "h-a")), item("9", "h-b"))
	a.Types = []string{"h-a", "h-a", "h-b"}
	a.Props = []api.Prop{prop("y", got("", item("2", "h-a")), got("x"), got("", b)), prop("z")}
	c := item("0", "h-c", item("10", "h-a"))
	for typ, want := range map[string]string{"h-a": "1 2 3 4 6 7 8 10", "h-b": "1 5 9", "h-c": "0", "": "", "h-d": ""} {
		var ids []string
		for _, i := range mf.All([]api.Item{a, c}, typ) {
			ids = append(ids, i.Id)
		}
		if got := strings.Join(ids, " "); got != want {
			t.Errorf("All %q are %s, want %s", typ, got, want)
		}
	}
	if got := mf.All([]api.Item{a}, "h-a"); !mf.Same(got[:1], []api.Item{a}) || !mf.Same(got[2:3], []api.Item{b}) {
		t.Errorf("%s", shown(got))
	}
	if len(mf.All(nil, "h-a"))+len(mf.All([]api.Item{{}}, "")) != 0 {
		t.Error("nothing has items")
	}
}

// P17.2: each thing that differs tells two apart; nil and empty are one (R6).
func TestSame(t *testing.T) {
	whole := func() []api.Item {
		return []api.Item{{
			Types: []string{"h-a", "h-b"}, Id: "1", Shape: "s",
			Props: []api.Prop{prop("x", got("1", api.Item{Id: "2"}), api.Got{Text: "t", HTML: "h", IsE: true}), prop("y", got("3"))},
			Kids:  []api.Item{{Id: "4"}, {Id: "5", Kids: []api.Item{{Id: "6"}}}},
		}, {}}
	}
	if a, b := whole(), whole(); !mf.Same(a, b) || !mf.Same(nil, nil) || !mf.Same(nil, []api.Item{}) {
		t.Error("what is the same is not")
	}
	empty := []api.Item{{Types: []string{}, Props: []api.Prop{}, Kids: []api.Item{}}}
	if !mf.Same(empty, []api.Item{{}}) || !mf.Same([]api.Item{{}}, empty) {
		t.Error("nil and empty are not the same")
	}
	a := []api.Item{{Props: []api.Prop{{Vals: []api.Got{}}, {Vals: []api.Got{{Item: []api.Item{}}}}}}}
	if !mf.Same(a, []api.Item{{Props: []api.Prop{{}, {Vals: []api.Got{{}}}}}}) {
		t.Error("nil and empty are not the same further down")
	}
	for what, turn := range map[string]func(l []api.Item) []api.Item{
		"one less":          func(l []api.Item) []api.Item { return l[:1] },
		"one more":          func(l []api.Item) []api.Item { return append(l, api.Item{}) },
		"none":              func(l []api.Item) []api.Item { return nil },
		"another order":     func(l []api.Item) []api.Item { return []api.Item{l[1], l[0]} },
		"a type":            func(l []api.Item) []api.Item { l[0].Types[1] = "h-c"; return l },
		"types' order":      func(l []api.Item) []api.Item { slices.Reverse(l[0].Types); return l },
		"a type less":       func(l []api.Item) []api.Item { l[0].Types = l[0].Types[:1]; return l },
		"an Id":             func(l []api.Item) []api.Item { l[1].Id = "x"; return l },
		"a Shape":           func(l []api.Item) []api.Item { l[0].Shape = ""; return l },
		"a property":        func(l []api.Item) []api.Item { l[0].Props = l[0].Props[:1]; return l },
		"properties' order": func(l []api.Item) []api.Item { slices.Reverse(l[0].Props); return l },
		"a property's name": func(l []api.Item) []api.Item { l[0].Props[1].Name = "z"; return l },
		"a value":           func(l []api.Item) []api.Item { l[0].Props[1].Vals = nil; return l },
		"values' order":     func(l []api.Item) []api.Item { slices.Reverse(l[0].Props[0].Vals); return l },
		"a Text":            func(l []api.Item) []api.Item { l[0].Props[0].Vals[0].Text = ""; return l },
		"HTML":              func(l []api.Item) []api.Item { l[0].Props[0].Vals[1].HTML = ""; return l },
		"IsE":               func(l []api.Item) []api.Item { l[0].Props[0].Vals[1].IsE = false; return l },
		"a value's item":    func(l []api.Item) []api.Item { l[0].Props[0].Vals[0].Item = nil; return l },
		"in a value":        func(l []api.Item) []api.Item { l[0].Props[0].Vals[0].Item[0].Id = ""; return l },
		"a Kid":             func(l []api.Item) []api.Item { l[0].Kids = l[0].Kids[:1]; return l },
		"in a Kid":          func(l []api.Item) []api.Item { l[0].Kids[1].Kids[0].Id = ""; return l },
	} {
		other := turn(whole())
		if mf.Same(whole(), other) || mf.Same(other, whole()) {
			t.Errorf("%s makes no difference", what)
		}
		if !mf.Same(other, other) {
			t.Errorf("%s: not the same as itself", what)
		}
	}
}

// P17.4: each root is told by an id of its own; each is an item, and one alone, if none is a value twice.
func TestEachRoot(t *testing.T) {
	chance := rand.New(rand.NewSource(20))
	for range 3000 {
		var nodes []api.Node
		for i := range 1 + chance.Intn(30) {
			class := []string{"", "p-x", "h-a", "h-a p-x", "h-b e-y"}[chance.Intn(5)]
			nodes = append(nodes, element(chance.Intn(i+1), "b", "class", class, "id", fmt.Sprint(i+1)))
		}
		d := made(nodes...)
		var want, ids []string
		for i := range d.Nodes {
			if len(imply.Roots(d, i)) > 0 {
				want = append(want, fmt.Sprint(i))
			}
		}
		l, _ := mf.Items(d, at(t, base))
		each(l, func(i api.Item) { ids = append(ids, i.Id) })
		slices.Sort(ids)
		slices.Sort(want)
		if !slices.Equal(ids, want) {
			t.Fatalf("%q, want %q", ids, want)
		}
	}
}

// P17.5
func TestTwo(t *testing.T) {
	chance := rand.New(rand.NewSource(21))
	u := at(t, base)
	written := func() (string, []api.Item) {
		s, why := tree.Write(parse(t, tagsByChance(chance, 12)), 0)
		if why != api.OK {
			t.Fatal(why)
		}
		l, _ := mf.Parse(s, u)
		return s, l
	}
	for range 10000 {
		a, itemsA := written()
		b, itemsB := written()
		got, why := mf.Parse(a+b, u)
		if want := append(itemsA, itemsB...); why != api.OK || !mf.Same(got, want) {
			t.Fatalf("%q and %q have\n%s, want\n%s", a, b, shown(got), shown(want))
		}
	}
}

// memory are the lists of items that hold something, as they lie in memory.
func memory(l []api.Item) []uintptr {
	var all []uintptr
	items(l, &all)
	return all
}

func lies[T any](l []T, all *[]uintptr) {
	if cap(l) > 0 {
		*all = append(*all, uintptr(unsafe.Pointer(unsafe.SliceData(l))))
	}
}

func items(l []api.Item, all *[]uintptr) {
	lies(l, all)
	for _, i := range l {
		lies(i.Types, all)
		lies(i.Props, all)
		for _, p := range i.Props {
			values(p.Vals, all)
		}
		items(i.Kids, all)
	}
}

func values(l []api.Got, all *[]uintptr) {
	lies(l, all)
	for _, v := range l {
		items(v.Item, all)
	}
}

// R4: what is answered shares nothing with anything.
func TestOwn(t *testing.T) {
	d := parse(t, "<b class='h-a h-b'><a class='h-a p-x u-x p-y' href=x>1<i class='h-a'>2</i><i class='p-x'>3</i></a><i class='h-a h-b'><u class='h-a p-x'></u></i></b><b class=h-a></b>")
	before := copied(d)
	l, _ := mf.Items(d, at(t, base))
	kept := shown(l)
	again, _ := mf.Items(d, at(t, base))
	shared := append(memory(l), memory(again)...)
	shared = append(shared, memory(mf.All(l, "h-a"))...)
	values(mf.Get(l[0], "x"), &shared)
	first, _ := mf.First(l[0], "x")
	values([]api.Got{first}, &shared)
	slices.Sort(shared)
	if count := len(shared); count < 100 || count != len(slices.Compact(shared)) {
		t.Errorf("of %d lists %d are shared", count, count-len(slices.Compact(shared)))
	}
	if shown(l) != kept || shown(again) != kept || !tree.Same(d, before) {
		t.Error("a call wrote into what it was handed")
	}
}

// R1: great inputs end, too.
func TestGreat(t *testing.T) {
	u := at(t, base)
	// Each root in the next one twice: no memory holds 2 to the 60 items.
	for deep, want := range map[int]api.Errno{12: api.OK, 60: api.ErrMany} {
		l, why := mf.Parse(strings.Repeat("<b class='h-a p-x p-y'>", deep), u)
		if why != want || (len(mf.All(l, "h-a")) == 1<<deep-1) != (want == api.OK) {
			t.Errorf("%d deep: %v", deep, why)
		}
	}
	var nodes []api.Node
	for i := range 512 {
		nodes = append(nodes, element(i, "b", "class", "h-a p-x p-y p-z"))
	}
	if l, why := mf.Items(made(nodes...), u); l != nil || why != api.ErrMany {
		t.Errorf("%d, %v", len(l), why)
	}
	// Many classes, most of them again.
	var classes strings.Builder
	for i := range 1 << 16 {
		fmt.Fprintf(&classes, " p-a%d u-a%d p-a1", i, i%7)
	}
	l, why := mf.Items(made(element(0, "b", "class", "h-a"), element(1, "i", "class", classes.String()), text(2, "x")), u)
	if why != api.OK || len(l[0].Props) != 1<<16 || len(l[0].Props[6].Vals) != 2 || len(l[0].Props[7].Vals) != 1 {
		t.Errorf("%d, %v", len(l), why)
	}
	// Many elements, and each of their properties.
	whole := "<div class=h-a>" + strings.Repeat("<p class=p-x>", 4000) + "</div>"
	if l, why := mf.Parse(whole, u); why != api.OK || len(mf.Get(l[0], "x")) != 4000 {
		t.Errorf("%d, %v", len(l), why)
	}
	// Items deep within one another.
	deep := api.Item{Types: []string{"h-b"}}
	for range 1 << 15 {
		deep = api.Item{Kids: []api.Item{deep}}
	}
	list := []api.Item{deep}
	if !mf.Same(list, list) || len(mf.All(list, "h-b")) != 1 {
		t.Error("a deep item is not the same as itself")
	}
}
