package look_test

import (
	"fmt"
	"math"
	"math/rand"
	"slices"
	"strings"
	"testing"

	"cringle/api"
	"cringle/look"
	"cringle/tree"
)

func parse(t *testing.T, s string) api.Doc {
	t.Helper()
	d, why := tree.Parse(s)
	if why != api.OK {
		t.Fatalf("Parse(%.80q): %v", s, why)
	}
	return d
}

// made is a tree of nodes whose Kids are found by their Ups.
func made(nodes ...api.Node) api.Doc {
	d := api.Doc{Nodes: append([]api.Node{{Kind: api.Root, Up: -1}}, nodes...)}
	for at, n := range d.Nodes {
		if n.Up >= 0 {
			d.Nodes[n.Up].Kids = append(d.Nodes[n.Up].Kids, at)
		}
	}
	return d
}

func element(up int, name string, pairs ...string) api.Node {
	n := api.Node{Kind: api.Element, Name: name, Up: up}
	for i := 0; i < len(pairs); i += 2 {
		n.Attrs = append(n.Attrs, api.Attr{Name: pairs[i], Value: pairs[i+1]})
	}
	return n
}

func text(up int, s string) api.Node { return api.Node{Kind: api.Text, Text: s, Up: up} }

// copied shares nothing with its tree.
func copied(d api.Doc) api.Doc {
	nodes := slices.Clone(d.Nodes)
	for i := range nodes {
		nodes[i].Attrs = slices.Clone(nodes[i].Attrs)
		nodes[i].Kids = slices.Clone(nodes[i].Kids)
	}
	return api.Doc{Nodes: nodes}
}

// texts calls use at all texts of at most most of the parts.
func texts(most int, use func(string), parts ...string) {
	var on func(string, int)
	on = func(s string, left int) {
		use(s)
		if left == 0 {
			return
		}
		for _, part := range parts {
			on(s+part, left-1)
		}
	}
	on("", most)
}

// pieces are what documents are made of.
func pieces() []string {
	return []string{
		"x", "y", " ", "\n", "&nbsp;", "&lt;", "\r", "<p>", "</p>", "<b>", "</b>", "<i class=\"h-x p-y  h-x u-\">", "</i>",
		"<br>", "<br class=a>", "<img>", "<img alt>", "<img alt=' i '>", "<img src=s>", "<img src=s alt=i>", "<IMG ALT=J>",
		"<script>s", "</script>", "<style>t", "</style>", "<template>", "</template>", "<template>x</template>",
		"<a class='a b'>", "</a>", "<div CLASS=\"b\ta\fb\na\rc\">", "</div>", "<ul><li>", "</ul>", "<hr>", "<title>z",
		"</title>", "<html class=a>", "<body class=' b '>", "<body class=c id='d e'>", "<table><tr><td>", "</table>", "<!--c-->",
	}
}

// byChance are documents of pieces taken by chance, but always the same ones.
func byChance(count, most int) []string {
	chance := rand.New(rand.NewSource(14))
	parts := pieces()
	all := make([]string, count)
	for i := range all {
		for range chance.Intn(most + 1) {
			all[i] += parts[chance.Intn(len(parts))]
		}
	}
	return all
}

// madeByChance are trees that were not parsed: void ones have something in them, attributes come again, and what lies in a node does not stand together.
func madeByChance(count, most int) []api.Doc {
	chance := rand.New(rand.NewSource(15))
	one := func(of ...string) string { return of[chance.Intn(len(of))] }
	all := make([]api.Doc, count)
	for i := range all {
		free := []int{0}
		var nodes []api.Node
		for range chance.Intn(most) {
			up := free[chance.Intn(len(free))]
			if chance.Intn(3) == 0 {
				nodes = append(nodes, text(up, one("x", " ", "y\n", "\u00a0", "<", "\xff")))
				continue
			}
			n := element(up, one("p", "b", "br", "img", "script", "style", "template", "BR", "Img", "Template", "i", "title"))
			for range chance.Intn(4) {
				n.Attrs = append(n.Attrs, api.Attr{Name: one("class", "alt", "src", "Class", "id"), Value: one("", " ", "a", "b a\tb", " h-x p-y h- ", "\xff a")})
			}
			nodes = append(nodes, n)
			free = append(free, len(nodes))
		}
		all[i] = made(nodes...)
	}
	return all
}

// check holds all calls at a place of a tree that may be against what the chapter's words say.
func check(t *testing.T, d api.Doc, at int) {
	t.Helper()
	hold := func(what string, got, want any) {
		t.Helper()
		if g, w := fmt.Sprintf("%q", got), fmt.Sprintf("%q", want); g != w {
			t.Fatalf("%s at %d is %s, want %s: %+v", what, at, g, w, d)
		}
	}
	for _, name := range []string{"class", "alt", "src", "id", "Class", "", "none"} {
		got, is := look.Attr(d, at, name)
		want, wantIs := wordedAttr(d, at, name)
		hold("Attr "+name, []any{got, is}, []any{want, wantIs})
		hold("Words "+name, look.Words(d, at, name), wordedWords(d, at, name))
	}
	for _, class := range []string{"a", "b", "h-x", "h-", "", " ", "a b", "A", "\xff"} {
		hold("Has "+class, look.Has(d, at, class), isOne(class, wordedWords(d, at, "class")...))
	}
	for _, prefixes := range [][]string{nil, {"h-"}, {"p-", "h-"}, {"h-", "h"}, {"h-x"}, {""}, {"u-"}, {"u", "a", "\xff"}, {"h-xx"}} {
		hold(fmt.Sprint("Starts ", prefixes), look.Starts(d, at, prefixes...), wordedStarts(d, at, prefixes...))
	}
	below := wordedBelow(d, at)
	hold("Below", look.Below(d, at), below)
	hold("Kids", look.Kids(d, at), wordedKids(d, at))
	for _, names := range [][]string{nil, {}, {"b"}, {"b", "p"}, {"br", "img", "br"}, {""}, {"B"}, {"none", "i"}} {
		hold(fmt.Sprint("Find ", names), look.Find(d, at, names...), named(d, below, names...))
		hold(fmt.Sprint("Only ", names), look.Only(d, at, names...), wordedOnly(d, at, names...))
	}
	hold("Text", look.Text(d, at), wordedText(d, at))
	hold("Plain", look.Plain(d, at), wordedPlain(d, at))
	hold("HTML", look.HTML(d, at), wordedHTML(d, at))
}

// follows tests what follows at a place.
func follows(t *testing.T, d api.Doc, at int) {
	t.Helper()
	if below, kids := look.Below(d, at), look.Kids(d, at); !slices.IsSorted(below) || !slices.IsSorted(kids) {
		t.Fatalf("at %d: Below %v, Kids %v: %+v", at, below, kids, d)
	}
	plain := look.Plain(d, at)
	if strings.Trim(plain, blanks) != plain {
		t.Fatalf("at %d: Plain %q", at, plain)
	}
	n := d.Nodes[at]
	if n.Kind == api.Text {
		return
	}
	parts := ""
	for _, kid := range n.Kids {
		if d.Nodes[kid].Kind == api.Element || !isOne(n.Name, "script", "style", "template") {
			parts += look.Text(d, kid)
		}
	}
	if s := look.Text(d, at); s != parts {
		t.Fatalf("at %d: Text %q, of what lies in it %q: %+v", at, s, parts, d)
	}
}

// P14.1
func TestAttr(t *testing.T) {
	d := made(
		element(0, "p", "a", "1", "b", "", "a", "2", "A", "3", "b", "4", "c d", " 5 "), // 1
		text(1, "a"),    // 2
		element(1, "b"), // 3
	)
	for _, c := range []struct {
		at          int
		name, value string
		is          bool
	}{
		{1, "a", "1", true}, {1, "b", "", true}, {1, "A", "3", true}, {1, "c d", " 5 ", true}, {1, "B", "", false}, {1, "c", "", false},
		{1, "", "", false}, {1, " a", "", false}, {1, "1", "", false}, {2, "a", "", false}, {3, "a", "", false}, {0, "a", "", false}, {0, "", "", false},
	} {
		if value, is := look.Attr(d, c.at, c.name); value != c.value || is != c.is {
			t.Errorf("Attr at %d of %q is %q, %v", c.at, c.name, value, is)
		}
	}
	parsed := parse(t, "<P Title='&lt; x ' TITLE=y id>")
	for name, want := range map[string]string{"title": "< x ", "id": ""} {
		if value, is := look.Attr(parsed, 1, name); value != want || !is {
			t.Errorf("Attr %s is %q, %v", name, value, is)
		}
	}
	if value, is := look.Attr(parsed, 1, "Title"); value != "" || is {
		t.Errorf("Attr Title is %q, %v", value, is)
	}
}

// P14.1
func TestWords(t *testing.T) {
	for _, c := range []struct {
		value string
		want  []string
	}{
		{"a  b a", []string{"a", "b"}},
		{"b a b c a", []string{"b", "a", "c"}},
		{" \t\n\f\r ", nil},
		{"", nil},
		{"a A a", []string{"a", "A"}},
		{"a\tb\nc\fd\re f", []string{"a", "b", "c", "d", "e", "f"}},
		{"a\vb\u00a0c", []string{"a\vb\u00a0c"}},
		{"ab a b", []string{"ab", "a", "b"}},
		{"\xff \xff é", []string{"\xff", "é"}},
	} {
		d := made(element(0, "p", "rel", c.value, "rel", "z"))
		if got := look.Words(d, 1, "rel"); !slices.Equal(got, c.want) {
			t.Errorf("Words of %q are %q", c.value, got)
		}
		if got := look.Words(d, 1, "class"); len(got) != 0 {
			t.Errorf("Words of no class are %q", got)
		}
	}
}

// P14.1
func TestHas(t *testing.T) {
	d := made(element(0, "p", "id", "z", "class", " a  b-c\th-x a", "class", "d"), text(1, "a"), element(1, "b", "Class", "a"))
	for class, want := range map[string]bool{
		"a": true, "b-c": true, "h-x": true, "b": false, "c": false, "A": false, "": false, " ": false, "a b-c": false, " a": false, "d": false, "z": false, "h-": false,
	} {
		if got := look.Has(d, 1, class); got != want {
			t.Errorf("Has %q is %v", class, got)
		}
	}
	for _, at := range []int{0, 2, 3} {
		if look.Has(d, at, "a") {
			t.Errorf("Has at %d", at)
		}
	}
}

// P14.1
func TestStarts(t *testing.T) {
	d := made(element(0, "p", "class", "h-entry p-name h- xh-y u-url h-entry e-h- H-Z p-a p"))
	for _, c := range []struct {
		prefixes, want []string
	}{
		{[]string{"h-"}, []string{"h-entry"}},
		{[]string{"p-", "u-"}, []string{"p-name", "u-url", "p-a"}},
		{[]string{"u-", "p-", "u-"}, []string{"p-name", "u-url", "p-a"}},
		{[]string{"h", "h-"}, []string{"h-entry", "h-"}},
		{[]string{"h-entry"}, nil},
		{[]string{"h-entr"}, []string{"h-entry"}},
		{[]string{"h-entryy"}, nil},
		{[]string{"dt-"}, nil},
		{[]string{"H-"}, []string{"H-Z"}},
		{[]string{""}, []string{"h-entry", "p-name", "h-", "xh-y", "u-url", "e-h-", "H-Z", "p-a", "p"}},
		{nil, nil},
	} {
		if got := look.Starts(d, 1, c.prefixes...); !slices.Equal(got, c.want) {
			t.Errorf("Starts %q are %q", c.prefixes, got)
		}
	}
	// Only the classes are asked.
	if got := look.Starts(made(element(0, "p", "rel", "h-x", "Class", "h-y")), 1, "h-"); len(got) != 0 {
		t.Errorf("%q", got)
	}
}

// P14.2, P14.4
func TestBelow(t *testing.T) {
	// 0 Root, 1 p, 2 Text, 3 b, 4 i, 5 Text, 6 br, 7 ul, 8 li, 9 Text
	d := parse(t, "<p>a<b><i>c</i></b><br></p><ul><li>d</ul>")
	for at, want := range [][]int{{1, 3, 4, 6, 7, 8}, {3, 4, 6}, nil, {4}, nil, nil, nil, {8}, nil, nil} {
		if got := look.Below(d, at); !slices.Equal(got, want) {
			t.Errorf("Below %d are %v, want %v", at, got, want)
		}
	}
	for at, want := range [][]int{{1, 7}, {3, 6}, nil, {4}, nil, nil, nil, {8}, nil, nil} {
		if got := look.Kids(d, at); !slices.Equal(got, want) {
			t.Errorf("Kids of %d are %v, want %v", at, got, want)
		}
	}
}

// P14.4: what lies in a node need not stand together.
func TestRising(t *testing.T) {
	d := made(element(0, "a"), element(0, "b"), element(1, "c"), text(2, "x"), element(2, "d"), element(3, "e"), element(1, "f"))
	for at, want := range [][]int{{1, 2, 3, 5, 6, 7}, {3, 6, 7}, {5}, {6}, nil, nil, nil, nil} {
		if got := look.Below(d, at); !slices.Equal(got, want) {
			t.Errorf("Below %d are %v, want %v", at, got, want)
		}
	}
	for at, want := range [][]int{{1, 2}, {3, 7}, {5}, {6}, nil, nil, nil, nil} {
		if got := look.Kids(d, at); !slices.Equal(got, want) {
			t.Errorf("Kids of %d are %v, want %v", at, got, want)
		}
	}
	if got := look.Find(d, 0, "f", "e", "c"); !slices.Equal(got, []int{3, 6, 7}) {
		t.Errorf("%v", got)
	}
}

// P14.2
func TestFind(t *testing.T) {
	d := parse(t, "<p>a<b><i>c</i></b><br></p><b>d</b>") // 1 p, 3 b, 4 i, 6 br, 7 b
	for _, c := range []struct {
		at    int
		names []string
		want  []int
	}{
		{0, []string{"b"}, []int{3, 7}},
		{0, []string{"br", "b"}, []int{3, 6, 7}},
		{0, []string{"b", "b"}, []int{3, 7}},
		{1, []string{"b", "p"}, []int{3}},
		{3, []string{"b", "i"}, []int{4}},
		{4, []string{"i"}, nil},
		{2, []string{"i"}, nil},
		{0, []string{"B"}, nil},
		{0, []string{""}, nil},
		{0, nil, nil},
	} {
		if got := look.Find(d, c.at, c.names...); !slices.Equal(got, c.want) {
			t.Errorf("Find at %d of %q are %v", c.at, c.names, got)
		}
	}
}

// P14.2
func TestOnly(t *testing.T) {
	for _, c := range []struct {
		s     string
		names []string
		want  int
	}{
		{"<p><b></b></p>", nil, 2},
		{"<p><b></b></p>", []string{"b"}, 2},
		{"<p><b></b></p>", []string{"i"}, -1},
		{"<p><b></b></p>", []string{"B"}, -1},
		{"<p><b></b></p>", []string{""}, -1},
		{"<p><b></b></p>", []string{"i", "b", "b"}, 2},
		{"<p>a<b></b>c</p>", nil, 3},
		{"<p>a</p>", nil, -1},
		{"<p></p>", nil, -1},
		{"<p><b></b><i></i></p>", nil, -1},
		// It is alone among all that lie there, not among those of its name.
		{"<p><b></b><i></i></p>", []string{"b"}, -1},
		{"<p><b></b><i></i></p>", []string{"i"}, -1},
		{"<p><b></b><i></i></p>", []string{"b", "i"}, -1},
		{"<p><b></b><i></i><b></b></p>", []string{"i"}, -1},
		{"<p>a<img><b>x</b></p>", []string{"img"}, -1},
		{"<p><b></b><b></b><b></b></p>", []string{"b"}, -1},
		{"<p><b></b><b></b><b></b></p>", nil, -1},
		// What lies deeper does not count.
		{"<p><b><i></i></b></p>", []string{"i"}, -1},
		{"<p><i><i></i></i></p>", []string{"i"}, 2},
	} {
		if got := look.Only(parse(t, c.s), 1, c.names...); got != c.want {
			t.Errorf("Only of %q, %q, is %d, want %d", c.s, c.names, got, c.want)
		}
	}
	d := parse(t, "<p>a<b></b></p>")
	for at, want := range []int{1, 3, -1, -1} {
		if got := look.Only(d, at); got != want {
			t.Errorf("Only at %d is %d, want %d", at, got, want)
		}
	}
}

// P14.3
func TestText(t *testing.T) {
	for _, c := range []struct{ s, want string }{
		{"", ""},
		{"a", "a"},
		{" a<b> c </b>d\n", " a c d\n"},
		{"a<br>b<img alt=c src=d>e", "abe"},
		{"<p>a&lt;&nbsp;</p><p>b</p>", "a<\u00a0b"},
		{"a<!--b-->c", "ac"},
		{"a<script>b</script>c<style>d</style>e", "ace"},
		// Hidden are those that lie in it itself, not those that lie deeper.
		{"a<template>b<p>c</p>d</template>e", "ace"},
		{"a<template>t<b>u<i>v</i></b></template><p>w</p>", "auvw"},
		{"a<p><b><script>b</script></b>c</p>", "ac"},
		{"<template><template>a</template>b</template>c", "c"},
		{"a<title>b</title><textarea>c</textarea>", "abc"},
		{"a<noscript>b</noscript>", "ab"},
	} {
		if got := look.Text(parse(t, c.s), 0); got != c.want {
			t.Errorf("Text of %q is %q, want %q", c.s, got, c.want)
		}
	}
}

// P14.3: at each place.
func TestTextAt(t *testing.T) {
	// 1 p, 2 Text, 3 script, 4 Text, 5 b, 6 Text, 7 template, 8 i, 9 Text, 10 Text
	d := parse(t, "<p> a<script> s </script><b> c </b><template><i> d </i> e</template>")
	for at, want := range []string{" a c  d ", " a c  d ", " a", "", " s ", " c ", " c ", " d ", " d ", " d ", " e"} {
		if got := look.Text(d, at); got != want {
			t.Errorf("Text at %d is %q, want %q", at, got, want)
		}
		if got := look.Plain(d, at); got != strings.Trim(want, blanks) {
			t.Errorf("Plain at %d is %q", at, got)
		}
	}
	for _, name := range []string{"script", "style", "template", "b"} {
		d := made(element(0, name), text(1, "x"), element(1, "i"), text(3, "y"))
		want := "y"
		if name == "b" {
			want = "xy"
		}
		for at := range 2 {
			if got := look.Text(d, at); got != want {
				t.Errorf("%s: Text at %d is %q", name, at, got)
			}
		}
		if got := look.Text(d, 2); got != "x" {
			t.Errorf("%s: a Text's own is %q", name, got)
		}
	}
	// Names are those of Elements, letter by letter.
	if got := look.Text(made(element(0, "Script"), text(1, "x")), 0); got != "x" {
		t.Errorf("%q", got)
	}
}

// P14.3, P14.6
func TestPlain(t *testing.T) {
	for _, c := range []struct{ s, want string }{
		{"", ""},
		{" a ", "a"},
		{"<p>x<br>y</p>", "x\ny"},
		{"x<br/><br>y<br>", "x\n\ny"},
		{"<br>", ""},
		{" \n<b>\f\r </b>&#9;x &#9;<i> </i>", "x"},
		{"a  <b> b </b>\n c", "a   b \n c"},
		{"&nbsp;x&nbsp;", "\u00a0x\u00a0"},
		// A byte 32 stands around a src alone.
		{"a<img alt=b src=c>d", "abd"},
		{"a<img src=c>d", "a c d"},
		{"a<img src='' class=b>d", "a  d"},
		{"a<img src>d", "a  d"},
		{"a<img alt='' src=c>d", "ad"},
		{"a<img alt src=c>d", "ad"},
		{"a<img>d", "ad"},
		{"<img alt=b>", "b"},
		{"a<img alt=' b '>", "a b"},
		{"<b><img src=b></b>c", "b c"},
		{"<img alt='&lt;'><img src='/?a&amp;b'>", "< /?a&b"},
		{"a<area alt=b><input value=c><object data=d>e", "ae"},
		{"a<script>b<br></script>c<style>d</style>e<br>", "ace"},
		// Only Texts are hidden.
		{"a<template>b<br>c<img alt=d></template>e", "a\nde"},
		{"a<template><p>b<br>c</template>d", "ab\ncd"},
		{"a<hr>b", "ab"},
	} {
		if got := look.Plain(parse(t, c.s), 0); got != c.want {
			t.Errorf("Plain of %q is %q, want %q", c.s, got, c.want)
		}
	}
	// Of what is asked for only what lies in it is told.
	d := parse(t, "<p><img alt=a src=b><br>c</p>")
	for at, want := range []string{"a\nc", "a\nc", "", "", "c"} {
		if got := look.Plain(d, at); got != want {
			t.Errorf("Plain at %d is %q, want %q", at, got, want)
		}
	}
	d = made(element(0, "img", "alt", "a"), text(1, " x"), element(0, "br"), text(3, "y "), text(0, "z"))
	for at, want := range []string{"a x\ny z", "x", "x", "y", "y", "z"} {
		if got := look.Plain(d, at); got != want {
			t.Errorf("Plain at %d is %q, want %q", at, got, want)
		}
	}
	// In a br and an img, too, Texts are told behind what stands for it, and so is what lies in these.
	d = made(text(0, "a"), element(0, "br"), element(2, "b"), text(3, "b"), element(2, "img", "src", "c"), element(5, "img", "alt", "d"), text(6, "e"), element(2, "template"), text(8, "f"))
	if plain, text := look.Plain(d, 0), look.Text(d, 0); plain != "a\nb c de" || text != "abe" {
		t.Errorf("%q, %q", plain, text)
	}
	d = made(element(0, "IMG", "alt", "a"), element(0, "Br"), text(0, "x"), element(0, "img", "ALT", "b", "src", "c", "src", "d"))
	if got := look.Plain(d, 0); got != "x c" {
		t.Errorf("%q", got)
	}
}

// P14.3
func TestHTML(t *testing.T) {
	for _, c := range []struct{ s, want string }{
		{"", ""},
		{" \t<b> a </b>\n\f", "<b> a </b>"},
		{"a &amp; <br>b", "a &amp; <br>b"},
		{"<ul><li>a<li>b</ul>", "<ul><li>a</li><li>b</li></ul>"},
		{"&nbsp;a&nbsp;", "&nbsp;a&nbsp;"},
		{"<script> a<b </script>", "<script> a<b </script>"},
		{"<!--a--> <template>b</template>", "<template>b</template>"},
		{" ", ""},
	} {
		if got := look.HTML(parse(t, c.s), 0); got != c.want {
			t.Errorf("HTML of %q is %q, want %q", c.s, got, c.want)
		}
	}
	d := parse(t, "<p class=a> x<b> y&lt;</b> </p>")
	for at, want := range []string{`<p class="a"> x<b> y&lt;</b> </p>`, "x<b> y&lt;</b>", "x", "y&lt;", "y&lt;", ""} {
		if got := look.HTML(d, at); got != want {
			t.Errorf("HTML at %d is %q, want %q", at, got, want)
		}
	}
	// Layer 13 writes at most 4 * 2^16 bytes; these are counted ahead of trimming.
	for size, want := range map[int]int{1 << 18: 1<<18 - 2, 1<<18 + 1: 0} {
		d := made(text(0, " "+strings.Repeat("x", size-2)+" "))
		if got := look.HTML(d, 0); len(got) != want {
			t.Errorf("HTML of %d bytes has %d", size, len(got))
		}
	}
}

// Example 1.
func TestExample(t *testing.T) {
	d := parse(t, `<p class="a  b a">x<br>y</p>`)
	if got := look.Words(d, 1, "class"); !slices.Equal(got, []string{"a", "b"}) {
		t.Errorf("%q", got)
	}
	if got := look.Plain(d, 1); got != "x\ny" {
		t.Errorf("%q", got)
	}
}

// P14.1 to P14.6: at each place of many documents.
func TestDocuments(t *testing.T) {
	use := func(s string) {
		d := parse(t, s)
		for at := range d.Nodes {
			check(t, d, at)
			follows(t, d, at)
		}
	}
	texts(4, use, " x", "<b>", "</b>", "<br>", "<p>")
	texts(4, use, "y", "<template>", "</template>", "<b>", "<img alt=a>")
	texts(4, use, "<script>", "</script>", "z ", "<style>", "</style>")
	texts(2, use, pieces()...)
	for _, s := range byChance(1500, 12) {
		use(s)
	}
}

// P14.1 to P14.6: at each place of trees that were not parsed.
func TestTrees(t *testing.T) {
	for _, d := range madeByChance(3000, 12) {
		if !tree.May(d) {
			t.Fatalf("%+v may not be", d)
		}
		for at := range d.Nodes {
			check(t, d, at)
			follows(t, d, at)
		}
	}
}

// P14.5: of documents one behind the other.
func TestBehind(t *testing.T) {
	parts := []string{"", "a", " b ", "<p>c</p>", "<b>d<br>e</b>", "<i><template>f</template>g</i>", "<script>h</script>", "<ul><li>i<li>j</ul>", "<img alt=k>"}
	for _, a := range parts {
		for _, b := range parts {
			if got, want := look.Text(parse(t, a+b), 0), look.Text(parse(t, a), 0)+look.Text(parse(t, b), 0); got != want {
				t.Errorf("Text of %q behind %q is %q, want %q", b, a, got, want)
			}
		}
	}
	// As they lie in one another, not as they stand.
	d := made(element(0, "a"), element(0, "b"), text(2, "3"), text(1, "1"), text(2, "4"), text(1, "2"))
	for at, want := range []string{"1234", "12", "34", "3", "1", "4", "2"} {
		if got := look.Text(d, at); got != want {
			t.Errorf("Text at %d is %q, want %q", at, got, want)
		}
		if got := look.Plain(d, at); got != want {
			t.Errorf("Plain at %d is %q, want %q", at, got, want)
		}
	}
}

// tellsNothing tests that all answers are nothing, empty, false, -1.
func tellsNothing(t *testing.T, what string, d api.Doc, at int) {
	t.Helper()
	for _, name := range []string{"class", "a", ""} {
		if value, is := look.Attr(d, at, name); value != "" || is {
			t.Errorf("%s: Attr at %d is %q, %v", what, at, value, is)
		}
		if got := look.Words(d, at, name); len(got) != 0 {
			t.Errorf("%s: Words at %d are %q", what, at, got)
		}
		if look.Has(d, at, name) {
			t.Errorf("%s: Has at %d", what, at)
		}
		if got := look.Starts(d, at, name); len(got) != 0 {
			t.Errorf("%s: Starts at %d are %q", what, at, got)
		}
	}
	for _, names := range [][]string{nil, {"p", "b"}, {""}} {
		if got := look.Find(d, at, names...); len(got) != 0 {
			t.Errorf("%s: Find at %d are %v", what, at, got)
		}
		if got := look.Only(d, at, names...); got != -1 {
			t.Errorf("%s: Only at %d is %d", what, at, got)
		}
	}
	if below, kids := look.Below(d, at), look.Kids(d, at); len(below) != 0 || len(kids) != 0 {
		t.Errorf("%s: Below at %d are %v, Kids %v", what, at, below, kids)
	}
	if text, plain, html := look.Text(d, at), look.Plain(d, at), look.HTML(d, at); text != "" || plain != "" || html != "" {
		t.Errorf("%s: at %d %q, %q, %q", what, at, text, plain, html)
	}
}

// P14.1 to P14.3: of no place there is nothing.
func TestNoPlace(t *testing.T) {
	for what, d := range map[string]api.Doc{
		"parsed": parse(t, "<p class=a>x<b>y</b></p>"),
		"Root":   made(),
		"none":   {},
		"empty":  {Nodes: []api.Node{}},
	} {
		for _, at := range []int{-1, -2, len(d.Nodes), len(d.Nodes) + 1, 1 << 31, math.MaxInt, math.MinInt} {
			tellsNothing(t, what, d, at)
		}
	}
	tellsNothing(t, "the Root alone", made(), 0)
}

// P14.1 to P14.3: of a tree that may not be there is nothing.
func TestNoTree(t *testing.T) {
	base := made(element(0, "p", "class", "a h-x", "a", "1"), text(1, "x"), element(1, "b", "class", "a"), text(3, "y"), text(0, "z"))
	for what, turn := range map[string]func(n []api.Node){
		"Root's kind":         func(n []api.Node) { n[0].Kind = api.Element },
		"Root's Up":           func(n []api.Node) { n[0].Up = 0 },
		"Root's name":         func(n []api.Node) { n[0].Name = "p" },
		"Root's attributes":   func(n []api.Node) { n[0].Attrs = []api.Attr{{Name: "class", Value: "a"}} },
		"Root's Text":         func(n []api.Node) { n[0].Text = "x" },
		"another kind":        func(n []api.Node) { n[2].Kind = 4 },
		"a second Root":       func(n []api.Node) { n[3].Kind, n[3].Name, n[3].Attrs = api.Root, "", nil },
		"no name":             func(n []api.Node) { n[3].Name = "" },
		"an Element's Text":   func(n []api.Node) { n[3].Text = "x" },
		"a nameless one":      func(n []api.Node) { n[3].Attrs[0].Name = "" },
		"an empty Text":       func(n []api.Node) { n[5].Text = "" },
		"a Text's attributes": func(n []api.Node) { n[5].Attrs = []api.Attr{{Name: "class", Value: "a"}} },
		"a Text's Kids":       func(n []api.Node) { n[5].Kids = []int{0} },
		"a Kid past the end":  func(n []api.Node) { n[1].Kids = []int{2, 3, 6} },
		"a Kid below 0":       func(n []api.Node) { n[0].Kids = []int{-1, 1, 5} },
		"a Kid twice":         func(n []api.Node) { n[0].Kids = []int{1, 1, 5} },
		"Kids not rising":     func(n []api.Node) { n[1].Kids = []int{3, 2} },
		"a Kid less":          func(n []api.Node) { n[1].Kids = []int{2} },
		"the Root as a Kid":   func(n []api.Node) { n[3].Kids = []int{0, 4} },
		"itself as a Kid":     func(n []api.Node) { n[3].Kids = []int{3, 4} },
		"in itself":           func(n []api.Node) { n[3].Up, n[3].Kids, n[1].Kids = 3, []int{3, 4}, []int{2} },
		"in one behind":       func(n []api.Node) { n[2].Up, n[1].Kids, n[3].Kids = 3, []int{3}, []int{2, 4} },
		"in a Text":           func(n []api.Node) { n[4].Up, n[2].Kids, n[3].Kids = 2, []int{4}, nil },
		"an Up past the end":  func(n []api.Node) { n[5].Up = 6 },
		"an Up far past it":   func(n []api.Node) { n[5].Up = math.MaxInt },
		"an Up below 0":       func(n []api.Node) { n[5].Up = math.MinInt },
	} {
		d := copied(base)
		turn(d.Nodes)
		for at := -2; at <= len(d.Nodes)+1; at++ {
			tellsNothing(t, what, d, at)
		}
	}
	for _, count := range []int{4096, 4097} {
		nodes := slices.Repeat([]api.Node{element(0, "p", "class", "a h-x")}, count-1)
		nodes[0] = element(0, "b", "class", "a")
		nodes[1] = text(1, "x")
		d := made(nodes...)
		if count > 4096 {
			for _, at := range []int{0, 1, 2, 3, count - 1} {
				tellsNothing(t, "too many nodes", d, at)
			}
		} else if len(look.Below(d, 0)) != count-2 || !look.Has(d, count-1, "h-x") || look.Text(d, 0) != "x" || len(look.Find(d, 0, "p")) != count-3 || look.Only(d, 0) != -1 {
			t.Errorf("%d nodes tell too little", count)
		}
	}
}

// R4: nothing is written into what is handed in, and what is answered is the caller's.
func TestOwn(t *testing.T) {
	d := parse(t, "<p class='h-a p-b h-a'>x<b>y</b><i>z</i></p>")
	before := copied(d)
	names := []string{"b", "i", "b"}
	for range 2 {
		for at := range d.Nodes {
			check(t, d, at)
		}
		for _, all := range [][]int{look.Below(d, 0), look.Kids(d, 1), look.Find(d, 0, names...)} {
			for i := range all[:cap(all)] {
				all[:cap(all)][i] = -7
			}
		}
		for _, all := range [][]string{look.Words(d, 1, "class"), look.Starts(d, 1, "h-", "p-")} {
			for i := range all[:cap(all)] {
				all[:cap(all)][i] = "turned"
			}
		}
		look.Only(d, 1, names...)
		look.Starts(d, 1, names...)
		if !tree.Same(d, before) || !slices.Equal(names, []string{"b", "i", "b"}) {
			t.Fatalf("a call wrote into what it was handed: %+v, %q", d, names)
		}
	}
}

// R1: great inputs end, too.
func TestGreat(t *testing.T) {
	deep := make([]api.Node, 4095)
	for i := range deep {
		deep[i] = element(i, "b", "class", "a")
	}
	deep[4094] = text(4094, "x")
	d := made(deep...)
	if got := look.Below(d, 0); len(got) != 4094 || got[4093] != 4094 {
		t.Errorf("%d below", len(got))
	}
	if text, plain := look.Text(d, 0), look.Plain(d, 2); text != "x" || plain != "x" {
		t.Errorf("%q, %q", text, plain)
	}
	if got := len(look.HTML(d, 0)); got != 4094*len(`<b class="a"></b>`)+1 {
		t.Errorf("HTML has %d bytes", got)
	}
	var many strings.Builder
	for i := range 1 << 18 {
		fmt.Fprintf(&many, "w%d ", i)
	}
	d = made(element(0, "p", "class", many.String()+many.String()))
	if got := look.Words(d, 1, "class"); len(got) != 1<<18 || got[1<<17] != fmt.Sprint("w", 1<<17) {
		t.Errorf("%d words", len(got))
	}
	if got := look.Starts(d, 1, "w", "w1"); len(got) != 1<<18 || !look.Has(d, 1, "w262143") || look.Has(d, 1, "w262144") {
		t.Errorf("%d classes", len(got))
	}
}
