package tree_test

import (
	"fmt"
	"math/rand"
	"reflect"
	"slices"
	"strings"
	"testing"

	"cringle/api"
	"cringle/token"
	"cringle/tree"
)

// shape is a node as a text of the test's own: names, attributes in [], what lies in it in (), texts in quotes.
func shape(d api.Doc, at int) string {
	n := d.Nodes[at]
	if n.Kind == api.Text {
		return fmt.Sprintf("%q", n.Text)
	}
	s := n.Name
	if len(n.Attrs) > 0 {
		s += fmt.Sprint(n.Attrs)
	}
	if len(n.Kids) == 0 {
		return s
	}
	return s + "(" + shapes(d, at) + ")"
}

func shapes(d api.Doc, at int) string {
	var all []string
	for _, kid := range d.Nodes[at].Kids {
		all = append(all, shape(d, kid))
	}
	return strings.Join(all, " ")
}

// plain is a tree without empty lists, as these are the same as nil ones.
func plain(d api.Doc) api.Doc {
	var nodes []api.Node
	for _, n := range d.Nodes {
		if len(n.Attrs) == 0 {
			n.Attrs = nil
		}
		if len(n.Kids) == 0 {
			n.Kids = nil
		}
		nodes = append(nodes, n)
	}
	return api.Doc{Nodes: nodes}
}

// same holds trees against each other without the package's own Same.
func same(a, b api.Doc) bool { return reflect.DeepEqual(plain(a), plain(b)) }

// copied shares nothing with its tree.
func copied(d api.Doc) api.Doc {
	nodes := slices.Clone(d.Nodes)
	for i := range nodes {
		nodes[i].Attrs = slices.Clone(nodes[i].Attrs)
		nodes[i].Kids = slices.Clone(nodes[i].Kids)
	}
	return api.Doc{Nodes: nodes}
}

// made is a tree of nodes whose Kids are found by their Ups.
func made(nodes ...api.Node) api.Doc {
	d := api.Doc{Nodes: append([]api.Node{{Kind: api.Root, Up: -1}}, nodes...)}
	for at := range d.Nodes {
		if up := d.Nodes[at].Up; up >= 0 && up < len(d.Nodes) {
			d.Nodes[up].Kids = append(d.Nodes[up].Kids, at)
		}
	}
	return d
}

func element(up int, name string, pairs ...string) api.Node {
	n := api.Node{Kind: api.Element, Name: name, Up: up}
	for i := 0; i < len(pairs); i += 2 {
		n.Attrs = append(n.Attrs, api.Attr{Name: pairs[i], Value: pairs[i+1]})
	}
	return n
}

func text(up int, s string) api.Node { return api.Node{Kind: api.Text, Text: s, Up: up} }

func parse(t *testing.T, s string) api.Doc {
	t.Helper()
	d, why := tree.Parse(s)
	if why != api.OK {
		t.Fatalf("Parse(%.80q): %v", s, why)
	}
	return d
}

// texts calls use at all texts of at most most of the parts.
func texts(most int, use func(string), parts ...string) {
	var on func(string, int)
	on = func(s string, left int) {
		use(s)
		if left == 0 {
			return
		}
		for _, part := range parts {
			on(s+part, left-1)
		}
	}
	on("", most)
}

// allNames are all names that the chapter speaks of, and some that it does not.
func allNames() []string {
	all := names(voids + ", " + blocks + ", li, dt, dd, option, tr, td, th, select, button, object, body, html, script, style, title, textarea, span, a, tbody, caption, template, h7, h0")
	slices.Sort(all)
	return slices.Compact(all)
}

// pieces are what documents are made of.
func pieces() []string {
	parts := []string{"x", "x", " ", "y", "&lt;", "&#13;", "&nbsp;", "&#0;", "&amp;lt;", "\r\n", "\x00", "\xff", "<", ">", "</", "<!--c-->", "<!--", "-->", "<!doctype html>", "<?x>", "<p a=1>", "<P B='\"'>", "<div class=\"h-entry\">", "<br/>", "<p/>", "<li />", "<script/>", "<html lang=en>", "<html a b c>", "<body a=2>", "<body b=3/>", "<a<b>", "<x\"y =z='&lt;\r'>", "</x\"y>", "</p a=b>", "</br>", "</", "<title>a<b>", "</title>", "<style>p{}</p>", "</style>", "</SCRIPT >", "<textarea>&lt;<p>", "</textarea>"}
	for _, name := range allNames() {
		parts = append(parts, "<"+name+">", "</"+name+">")
	}
	for range 3 {
		for _, name := range []string{"p", "li", "ul", "div", "table", "tr", "td", "dl", "dd", "b"} {
			parts = append(parts, "<"+name+">", "</"+name+">")
		}
	}
	return parts
}

// byChance are documents of pieces taken by chance, but always the same ones.
func byChance(count, most int) []string {
	chance := rand.New(rand.NewSource(13))
	parts := pieces()
	all := make([]string, count)
	for i := range all {
		// Of few pieces, so that they meet each other often.
		few := make([]string, 1+chance.Intn(12))
		for j := range few {
			few[j] = parts[chance.Intn(len(parts))]
		}
		for range chance.Intn(most + 1) {
			all[i] += few[chance.Intn(len(few))]
		}
	}
	return all
}

// documents calls use at many.
func documents(use func(string)) {
	texts(5, use, "<li>", "</li>", "<ul>", "</ul>", "<ol>", "<p>", "x")
	texts(5, use, "<dt>", "<dd>", "<dl>", "</dl>", "</dt>", "<b>", "y")
	texts(5, use, "<table>", "<tr>", "<td>", "<th>", "</td>", "</tr>", "</table>", "z")
	texts(5, use, "<p>", "</p>", "<div>", "</div>", "<button>", "<table>", "</table>", "<hr>")
	texts(4, use, "<p>", "<td>", "<th>", "<li>", "<object>", "</object>", "<h1>", "</h1>", "<br>", "w")
	texts(5, use, "<option>", "<select>", "</select>", "</option>", "<body>", "v")
	texts(5, use, "<html a=1>", "<html a=2 b=3>", "</html>", "<body>", "<body c>", "</body>", "<p>", "x")
	texts(4, use, "<script>", "</script>", "<style/>", "</style>", "<title>", "</title>", "<", "&lt;", "<b>", "</b")
	texts(5, use, "x", "<!--c-->", "<!doctype>", "<b>", "</b>", "<br>", "</br>")
	texts(2, use, pieces()...)
	for _, s := range byChance(20000, 40) {
		use(s)
	}
}

// P13.1
func TestParse(t *testing.T) {
	for _, c := range []struct{ s, want string }{
		{"", ""},
		{"a", `"a"`},
		{"<ul><li>a<li>b</ul>", `ul(li("a") li("b"))`},
		{"<li>a<li>b", `li("a") li("b")`},
		{"<P Class=X>a</P>", `p[{class X}]("a")`},
		{"<p a=1 b='2'>x", `p[{a 1} {b 2}]("x")`},
		{"<b><i>x</i></b>y", `b(i("x")) "y"`},
		{"<b><i>x</b>y", `b(i("x")) "y"`},
		{"<b>x</i>y</b>z", `b("xy") "z"`},
		{"</b>x</p></li></html>", `"x"`},
		// Texts are joined, whatever stands between that lays nothing.
		{"a<!--b-->c", `"ac"`},
		{"a</x>b<!doctype html>c</br>d<?e>f", `"abcdf"`},
		{"a<br>b", `"a" br "b"`},
		{"a<b></b>c", `"a" b "c"`},
		{"<b>a</b>c", `b("a") "c"`},
		{"<b>a<!--c--></b>c", `b("a") "c"`},
		{"&lt;&amp;<!-- -->&gt;", `"<&>"`},
		{"<!doctype html><!-- c -->", ""},
		{" <p> ", `" " p(" ")`},
		// Void ones; closing itself does not count.
		{"<br>x", `br "x"`},
		{"<br/>x", `br "x"`},
		{"<br>x</br>y", `br "xy"`},
		{"<img src=a><img src=b>", `img[{src a}] img[{src b}]`},
		{"<p/>x", `p("x")`},
		{"<b/><i/>x", `b(i("x"))`},
		{"<div/>x</div>y", `div("x") "y"`},
		{"<script/>x</script>y", `script("x") "y"`},
		// li
		{"<ul><li>a<ul><li>b<li>c</ul><li>d</ul>", `ul(li("a" ul(li("b") li("c"))) li("d"))`},
		{"<li><ol><li>a", `li(ol(li("a")))`},
		{"<li><b>a<li>b", `li(b("a")) li("b")`},
		{"<li><dl><dd><li>", `li(dl(dd)) li`},
		{"<li><menu><li>a", `li(menu) li("a")`},
		{"<li><ul></ul><li>", `li(ul) li`},
		{"<li><p>a<li>b", `li(p("a")) li("b")`},
		{"<p>a<li>b<p>c", `p("a" li("b" p("c")))`},
		// dt, dd
		{"<dl><dt>a<dd>b<dd>c<dt>d</dl>e", `dl(dt("a") dd("b") dd("c") dt("d")) "e"`},
		{"<dd><dl><dt>a<dd>", `dd(dl(dt("a") dd))`},
		{"<dt><ul><dd>", `dt(ul) dd`},
		// option
		{"<select><option>a<option>b</select>c", `select(option("a") option("b")) "c"`},
		{"<option><select><option>a<option>", `option(select(option("a") option))`},
		{"<option><table><option>", `option(table) option`},
		// tr, td, th
		{"<table><tr><td>a<td>b<tr><th>c<td>d</table>e", `table(tr(td("a") td("b")) tr(th("c") td("d"))) "e"`},
		{"<table><tbody><tr><td>a<tr>", `table(tbody(tr(td("a")) tr))`},
		{"<tr><td><table><tr><td>a<td>b<tr>c</table><td>", `tr(td(table(tr(td("a") td("b")) tr("c"))) td)`},
		{"<td><tr><td>", `td(tr(td))`},
		{"<th><table><td>", `th(table(td))`},
		{"<tr><select><tr>", `tr(select) tr`},
		{"<td><ul><th>", `td(ul) th`},
		// p
		{"<p>a<p>b", `p("a") p("b")`},
		{"<p>a<div>b</div>c", `p("a") div("b") "c"`},
		{"<p>a<b>b<p>c", `p("a" b("b")) p("c")`},
		{"<p>a<span>b<hr>c", `p("a" span("b")) hr "c"`},
		{"<p>a<table>b", `p("a") table("b")`},
		{"<p><button><p>a", `p(button(p("a")))`},
		{"<p><object><div>a", `p(object(div("a")))`},
		{"<p><td>a<p>b<p>c", `p(td("a" p("b") p("c")))`},
		{"<p><th><ul>a", `p(th(ul("a")))`},
		{"<p><li><h1>a", `p(li(h1("a")))`},
		{"<p><tr><p>", `p(tr) p`},
		{"<p><button></button><p>", `p(button) p`},
		{"<p><a><h7>x", `p(a(h7("x")))`},
		{"<p><a><h6>x", `p(a) h6("x")`},
		{"<p>a</p></p>b", `p("a") "b"`},
		// Walls of all.
		{"<li><body><li>", `li(body(li))`},
		{"<p><html><p>", `p(html(p))`},
		{"<td><body><td>", `td(body(td))`},
		// End tags stop at a table.
		{"<b><table></b>x", `b(table("x"))`},
		{"<p><button><table></p></button>x", `p(button(table("x")))`},
		{"<table><b><table>x</b>y</table>z</b>w", `table(b(table("xy") "z") "w")`},
		{"<table><tr><td>x</table>y", `table(tr(td("x"))) "y"`},
		{"<table><tr><td><table></td></tr>x", `table(tr(td(table("x"))))`},
		{"<table><b><i></b>x", `table(b(i) "x")`},
		{"<body><table></body>x", `body(table) "x"`},
		{"<html><body><table><td></html>x", `html(body(table(td))) "x"`},
		{"<table><b></table>x", `table(b) "x"`},
		{"<b><table></table></b>x", `b(table) "x"`},
		// html and body are laid once.
		{"<html><head></head><body>x</body></html>", `html(head body("x"))`},
		{"<html a=1><html a=2 b=3>x", `html[{a 1} {b 3}]("x")`},
		{"<body a=1>x<p>y<body c=2 a=3 d>z", `body[{a 1} {c 2} {d }]("x" p("yz"))`},
		{"<body>x</body>y<body a>z", `body[{a }]("x") "yz"`},
		{"<html><body b></html><html c><body d>x", `html[{c }](body[{b } {d }]) "x"`},
		{"<html/><body/>x", `html(body("x"))`},
		{"<body><html>x<body a><html b>y", `body[{a }](html[{b }]("xy"))`},
		{"<head><head>", `head(head)`},
		{"<HTML A=1><hTmL a=2>", `html[{a 1}]`},
		// Texts of their own.
		{"<script><b>&lt;</b></script>x", `script("<b>&lt;</b>") "x"`},
		{"<style></p></style ><p>", `style("</p>") p`},
		{"<title>a<b>&lt;</title>x", `title("a<b><") "x"`},
		{"<textarea><p>x", `textarea("<p>x")`},
		{"<p>a<script>b</script>c", `p("a" script("b") "c")`},
		// Where the document ends within a tag.
		{"<p>a<b", `p("a")`},
		{"<p>a</p", `p("a")`},
		{"a\r\nb\x00<x\xff>", `"a\nb` + "\ufffd" + `" x` + "\ufffd"},
		{"<a =b\"c=d>x</a>", `a[{=b"c d}]("x")`},
	} {
		d, why := tree.Parse(c.s)
		if why != api.OK || len(d.Nodes) == 0 {
			t.Errorf("Parse(%q): %v, %v", c.s, d, why)
			continue
		}
		if got := shapes(d, 0); got != c.want {
			t.Errorf("Parse(%q) = %s, want %s", c.s, got, c.want)
		}
	}
}

// P13.1: all of the nodes, as they stand.
func TestNodes(t *testing.T) {
	d := parse(t, "a<p b=c>d<br>e<i></i></p><hr>f")
	want := api.Doc{Nodes: []api.Node{
		{Kind: api.Root, Up: -1, Kids: []int{1, 2, 7, 8}},
		{Kind: api.Text, Text: "a", Up: 0},
		{Kind: api.Element, Name: "p", Attrs: []api.Attr{{Name: "b", Value: "c"}}, Up: 0, Kids: []int{3, 4, 5, 6}},
		{Kind: api.Text, Text: "d", Up: 2},
		{Kind: api.Element, Name: "br", Up: 2},
		{Kind: api.Text, Text: "e", Up: 2},
		{Kind: api.Element, Name: "i", Up: 2},
		{Kind: api.Element, Name: "hr", Up: 0},
		{Kind: api.Text, Text: "f", Up: 0},
	}}
	if !same(d, want) {
		t.Errorf("%+v, want %+v", d, want)
	}
	if d := parse(t, ""); !same(d, made()) {
		t.Errorf("%+v, want the Root alone", d)
	}
}

// P13.1: each name on its own, against each other one, and with a third one between.
func TestEachName(t *testing.T) {
	check := func(s string) {
		got, why := tree.Parse(s)
		if want, wantWhy := worded(s); !same(got, want) || why != wantWhy {
			t.Fatalf("Parse(%q) = %s, %v, want %s, %v", s, shapes(got, 0), why, shapes(want, 0), wantWhy)
		}
	}
	all := allNames()
	for _, a := range all {
		check("<" + a + ">x</" + a + ">y")
		check("x</" + a + ">y")
		for _, b := range all {
			check("<" + a + ">x<" + b + ">y</" + a + ">z</" + b + ">w")
			for _, c := range []string{"li", "dd", "option", "tr", "td", "p", "div"} {
				check("<" + c + "><" + a + "><" + b + "><" + c + ">x</" + a + ">y")
				check("<" + a + "><" + b + "><" + c + ">x")
			}
		}
	}
}

// P13.1, P13.4 to P13.6: at many documents.
func TestDocuments(t *testing.T) {
	documents(func(s string) {
		d, why := tree.Parse(s)
		want, wantWhy := worded(s)
		if !same(d, want) || why != wantWhy {
			t.Fatalf("Parse(%q) = %+v, %v, want %+v, %v", s, d, why, want, wantWhy)
		}
		if why == api.OK {
			follows(t, s, d)
		}
	})
}

// follows tests what follows for s, whose tree is d.
func follows(t *testing.T, s string, d api.Doc) {
	t.Helper()
	if !mayBe(d) || !tree.May(d) {
		t.Fatalf("%.200q: %+v may not be", s, d)
	}
	tokens, _ := token.All(s)
	told, have := "", ""
	for _, part := range tokens {
		if part.Kind == token.Text {
			told += part.Text
		}
	}
	deep := 0
	for at, n := range d.Nodes {
		have += n.Text
		deep = max(deep, above(d, at))
	}
	if have != told {
		t.Fatalf("%.200q has the texts %q, want %q", s, have, told)
	}
	if got := tree.Deep(d); got != deep {
		t.Fatalf("%.200q is %d deep, want %d", s, got, deep)
	}
	out, why := tree.Write(d, 0)
	if want, wantWhy := written(d, 0); out != want || why != wantWhy {
		t.Fatalf("%.200q is written as %q, %v, want %q, %v", s, out, why, want, wantWhy)
	}
	if why != api.OK || len(out) > api.MaxDoc {
		return
	}
	if again, why := tree.Parse(out); !same(again, d) || why != api.OK || !tree.Same(again, d) {
		t.Fatalf("%.200q, written as %.200q, is %+v, %v, want %+v", s, out, again, why, d)
	}
}

// P13.1: of more than 64 attributes of html and body the first 64 are kept.
func TestManyAttrs(t *testing.T) {
	attrs := func(from, to int) string {
		s := ""
		for i := from; i < to; i++ {
			s += fmt.Sprintf(" n%d=v%d", i, i)
		}
		return s
	}
	for _, name := range []string{"html", "body"} {
		for _, c := range []struct {
			tags []string
			want int
		}{
			{[]string{attrs(0, 63), attrs(60, 63)}, 63},
			{[]string{attrs(0, 63), attrs(63, 64)}, 64},
			{[]string{attrs(0, 63), attrs(62, 66)}, 64},
			{[]string{attrs(0, 64), attrs(64, 65)}, 64},
			{[]string{attrs(0, 1), attrs(1, 64), attrs(30, 70)}, 64},
			{[]string{"", attrs(0, 64), attrs(64, 80)}, 64},
			{[]string{attrs(0, 40), attrs(20, 60), attrs(0, 64)}, 64},
		} {
			s := ""
			for _, tag := range c.tags {
				s += "<" + name + tag + ">"
			}
			d := parse(t, s)
			if len(d.Nodes) != 2 || len(d.Nodes[1].Attrs) != c.want {
				t.Fatalf("%s: %+v, want %d attributes", s, d, c.want)
			}
			for i, attr := range d.Nodes[1].Attrs {
				if attr.Name != fmt.Sprint("n", i) || attr.Value != fmt.Sprint("v", i) {
					t.Errorf("%s: %d is %v", s, i, attr)
				}
			}
			follows(t, s, d)
		}
	}
}

// P13.1: what is too many, or too deep, and which of these comes first.
func TestLimits(t *testing.T) {
	br := func(n int) string { return strings.Repeat("<br>", n) }
	b := func(n int) string { return strings.Repeat("<b>", n) }
	for _, c := range []struct {
		what, s string
		why     api.Errno
	}{
		{"4096 nodes", br(4095), api.OK},
		{"4097 nodes", br(4096), api.ErrMany},
		{"4096 nodes, a text is the last", br(4094) + "x", api.OK},
		{"4096 nodes, a text is joined", br(4094) + "x<!---->y</b>z", api.OK},
		{"4097 nodes, a text is the last", br(4095) + "x", api.ErrMany},
		{"4096 nodes, and a second html and body", "<html><body>" + br(4093) + "<html a><body b>", api.OK},
		{"4097 nodes, html is the last", br(4095) + "<html>", api.ErrMany},
		{"4096 nodes, and what lays nothing", br(4095) + "<!--x--></p><!doctype>", api.OK},
		{"64 above", b(64), api.OK},
		{"65 above", b(65), api.ErrDeep},
		{"64 above a text", b(63) + "x", api.OK},
		{"65 above a text", b(64) + "x", api.ErrDeep},
		{"64 above a void one", b(63) + "<br>", api.OK},
		{"65 above a void one", b(64) + "<br>", api.ErrDeep},
		{"64 above, and closed", b(64) + "</b>x<b></b><br>", api.OK},
		{"64 above, closed by a start tag", "<p>" + b(63) + "<p>x", api.OK},
		{"64 above, not closed by one", "<p>" + b(63) + "<i>", api.ErrDeep},
		{"64 above, and a second html", "<html>" + b(63) + "<html a>", api.OK},
		{"64 above, and a first html", b(64) + "<html>", api.ErrDeep},
		{"64 above, and what lays nothing", b(64) + "<!--x--></p>", api.OK},
		{"too deep ahead of too many", b(65) + br(5000), api.ErrDeep},
		{"too many ahead of too deep", br(4096) + b(65), api.ErrMany},
		{"too many and too deep at once", br(4031) + b(65), api.ErrMany},
		{"too deep just ahead", br(4030) + b(65), api.ErrDeep},
		{"as deep as may be, too many", br(4032) + b(64), api.ErrMany},
		{"as deep as may be, as many", br(4031) + b(64), api.OK},
		{"too many tokens, too deep ahead", b(65) + strings.Repeat("<!>", 16384-64), api.ErrMany},
		{"just so many tokens, too deep ahead", b(65) + strings.Repeat("<!>", 16384-65), api.ErrDeep},
		{"as many tokens as may be", strings.Repeat("<!>", 16384), api.OK},
		{"as many bytes as may be", strings.Repeat("x", 1<<16), api.OK},
		{"too many bytes", strings.Repeat("x", 1<<16+1), api.ErrMany},
		{"too many bytes, too deep ahead", b(65) + strings.Repeat("x", 1<<16), api.ErrMany},
	} {
		d, why := tree.Parse(c.s)
		if why != c.why || why != api.OK && d.Nodes != nil {
			t.Errorf("%s: %d nodes, %v, want %v", c.what, len(d.Nodes), why, c.why)
		}
		if why == api.OK {
			follows(t, c.s, d)
		}
		if want, wantWhy := worded(c.s); !same(d, want) || why != wantWhy {
			t.Errorf("%s: not as worded, which is %v", c.what, wantWhy)
		}
	}
}

// P13.2
func TestMay(t *testing.T) {
	attr := func(name string) []api.Attr { return []api.Attr{{Name: "a"}, {Name: name}} }
	base := made(element(0, "p", "a", "", "b", "1"), text(1, "x"), element(1, "b"), text(3, "y"), text(0, "z"))
	if !tree.May(base) || !mayBe(base) {
		t.Fatal("the base may not be")
	}
	for _, c := range []struct {
		what string
		turn func(n []api.Node)
		may  bool
	}{
		{"nothing turned", func(n []api.Node) {}, true},
		{"empty lists", func(n []api.Node) { n[2].Kids, n[2].Attrs, n[0].Attrs = []int{}, []api.Attr{}, []api.Attr{} }, true},
		{"any name", func(n []api.Node) { n[1].Name = "A b/>\x00\xff" }, true},
		{"any attribute's name", func(n []api.Node) { n[1].Attrs = attr(" =\"\xff") }, true},
		{"two attributes of one name", func(n []api.Node) { n[1].Attrs = attr("a") }, true},
		{"many attributes", func(n []api.Node) { n[1].Attrs = slices.Repeat(attr("c"), 100) }, true},
		{"texts side by side", func(n []api.Node) { n[3] = text(1, "w"); n[4] = text(1, "y"); n[1].Kids = []int{2, 3, 4} }, true},
		{"any text", func(n []api.Node) { n[2].Text = "\xff\x00<" }, true},
		{"what lies in a void one", func(n []api.Node) { n[3].Name = "br" }, true},
		{"not one behind the other", func(n []api.Node) { n[4].Up = 1; n[1].Kids = []int{2, 3, 4}; n[3].Kids = nil }, true},
		{"Root's kind", func(n []api.Node) { n[0].Kind = api.Element }, false},
		{"Root's kind, with a name", func(n []api.Node) { n[0].Kind, n[0].Name = api.Element, "a" }, false},
		{"Root's kind 0", func(n []api.Node) { n[0].Kind = 0 }, false},
		{"Root's Up", func(n []api.Node) { n[0].Up = 0 }, false},
		{"Root's Up below", func(n []api.Node) { n[0].Up = -2 }, false},
		{"Root's name", func(n []api.Node) { n[0].Name = "a" }, false},
		{"Root's attributes", func(n []api.Node) { n[0].Attrs = attr("b") }, false},
		{"Root's Text", func(n []api.Node) { n[0].Text = "x" }, false},
		{"a second Root", func(n []api.Node) { n[3].Kind, n[3].Name = api.Root, "" }, false},
		{"a second Root with a name", func(n []api.Node) { n[3].Kind = api.Root }, false},
		{"a second Root in none", func(n []api.Node) { n[5] = api.Node{Kind: api.Root, Up: -1}; n[0].Kids = []int{1} }, false},
		{"another kind", func(n []api.Node) { n[2].Kind = 4 }, false},
		{"another kind below", func(n []api.Node) { n[2].Kind = -1 }, false},
		{"kind 0", func(n []api.Node) { n[2].Kind = 0 }, false},
		{"an Element without a name", func(n []api.Node) { n[3].Name = "" }, false},
		{"an Element with a Text", func(n []api.Node) { n[3].Text = "x" }, false},
		{"an attribute without a name", func(n []api.Node) { n[1].Attrs = attr("") }, false},
		{"the first one without a name", func(n []api.Node) { n[1].Attrs[0].Name = "" }, false},
		{"an empty Text", func(n []api.Node) { n[2].Text = "" }, false},
		{"a Text's name", func(n []api.Node) { n[2].Name = "a" }, false},
		{"a Text's attributes", func(n []api.Node) { n[2].Attrs = attr("b") }, false},
		{"a Text in a Text", func(n []api.Node) { n[4].Up, n[2].Kids, n[3].Kids = 2, []int{4}, nil }, false},
		{"a Text's Kids", func(n []api.Node) { n[2].Kids = []int{4} }, false},
		{"in itself", func(n []api.Node) { n[3].Up, n[3].Kids, n[1].Kids = 3, []int{3, 4}, []int{2} }, false},
		{"in one behind", func(n []api.Node) { n[2].Up, n[1].Kids, n[3].Kids = 3, []int{3}, []int{2, 4} }, false},
		{"in none", func(n []api.Node) { n[5].Up, n[0].Kids = -1, []int{1} }, false},
		{"below none", func(n []api.Node) { n[5].Up = -2 }, false},
		{"past the end", func(n []api.Node) { n[5].Up = 6 }, false},
		{"far past the end", func(n []api.Node) { n[5].Up = 1 << 62 }, false},
		{"not its Up's", func(n []api.Node) { n[5].Up = 1 }, false},
		{"a Kid less", func(n []api.Node) { n[1].Kids = []int{2} }, false},
		{"the first Kid less", func(n []api.Node) { n[1].Kids = []int{3} }, false},
		{"no Kids", func(n []api.Node) { n[1].Kids = nil }, false},
		{"a Kid more", func(n []api.Node) { n[1].Kids = []int{2, 3, 4} }, false},
		{"one that is none", func(n []api.Node) { n[1].Kids = []int{2, 3, 6} }, false},
		{"one below", func(n []api.Node) { n[1].Kids = []int{-1, 2, 3} }, false},
		{"twice", func(n []api.Node) { n[1].Kids = []int{2, 2, 3} }, false},
		{"twice at the end", func(n []api.Node) { n[0].Kids = []int{1, 5, 5} }, false},
		{"not rising", func(n []api.Node) { n[1].Kids = []int{3, 2} }, false},
		{"of another", func(n []api.Node) { n[0].Kids, n[3].Kids = []int{1, 4, 5}, nil }, false},
		{"the Root as a Kid", func(n []api.Node) { n[0].Kids = []int{0, 1, 5} }, false},
		{"Kids of what has none", func(n []api.Node) { n[5].Kids = []int{0} }, false},
	} {
		d := copied(base)
		c.turn(d.Nodes)
		if got := tree.May(d); got != c.may || mayBe(d) != c.may {
			t.Errorf("%s: May is %v, want %v (as worded %v)", c.what, got, c.may, mayBe(d))
		}
		if c.may {
			continue
		}
		if got := tree.Deep(d); got != 0 {
			t.Errorf("%s: Deep is %d", c.what, got)
		}
		if got, why := tree.Write(d, 0); got != "" || why != api.ErrMany {
			t.Errorf("%s: Write is %q, %v", c.what, got, why)
		}
	}
}

// P13.2
func TestMayHowMany(t *testing.T) {
	if tree.May(api.Doc{}) || tree.May(api.Doc{Nodes: []api.Node{}}) || tree.May(api.Doc{Nodes: []api.Node{{}}}) {
		t.Error("what has no Root may be")
	}
	if !tree.May(made()) {
		t.Error("the Root alone may not be")
	}
	for _, count := range []int{1, 4095, 4096, 4097, 10000} {
		wide, deep := make([]api.Node, count-1), make([]api.Node, count-1)
		for i := range wide {
			wide[i], deep[i] = text(0, "x"), element(i, "b")
		}
		may := count <= 4096
		if got := tree.May(made(wide...)); got != may {
			t.Errorf("May of %d nodes is %v", count, got)
		}
		// How deep a tree is, is none of May's.
		if got := tree.May(made(deep...)); got != may {
			t.Errorf("May of %d nodes in one another is %v", count, got)
		}
		want := count - 1
		if !may {
			want = 0
		}
		if got := tree.Deep(made(deep...)); got != want {
			t.Errorf("Deep of %d nodes in one another is %d", count, got)
		}
	}
}

// P13.2, P13.3: all documents of few nodes, of which most may not be.
func TestSmall(t *testing.T) {
	lists := [][]int{nil, {0}, {1}, {2}, {1, 2}, {2, 1}, {1, 1}}
	var nodes []api.Node
	for _, kind := range []int{0, 1, 2, 3, 4} {
		for up := -2; up <= 2; up++ {
			for _, kids := range lists {
				nodes = append(nodes, api.Node{Kind: kind, Up: up, Kids: kids})
			}
		}
	}
	count := 0
	check := func(d api.Doc) {
		// What each kind needs, so that the shape alone tells.
		for i := range d.Nodes {
			d.Nodes[i].Name, d.Nodes[i].Text = []string{"", "", "b", "", ""}[d.Nodes[i].Kind], []string{"", "", "", "<", ""}[d.Nodes[i].Kind]
		}
		may := mayBe(d)
		if may {
			count++
		}
		if got := tree.May(d); got != may {
			t.Fatalf("May(%+v) is %v", d, got)
		}
		for at := -1; at <= len(d.Nodes); at++ {
			got, why := tree.Write(d, at)
			if want, wantWhy := written(d, at); got != want || why != wantWhy {
				t.Fatalf("Write(%+v, %d) = %q, %v, want %q, %v", d, at, got, why, want, wantWhy)
			}
		}
	}
	for _, a := range nodes {
		check(api.Doc{Nodes: []api.Node{a}})
		for _, b := range nodes {
			check(api.Doc{Nodes: []api.Node{a, b}})
			if a.Kind != api.Root || a.Up != -1 {
				continue
			}
			for _, c := range nodes {
				check(api.Doc{Nodes: []api.Node{a, b, c}})
			}
		}
	}
	// The Root; with an Element or a Text; with two of these side by side, or within an Element.
	if count != 1+2+4+2 {
		t.Errorf("%d may be", count)
	}
}

// P13.2
func TestSame(t *testing.T) {
	base := made(element(0, "p", "a", "1", "b", "2"), text(1, "x"), element(1, "b"))
	for what, turn := range map[string]func(d *api.Doc){
		"a kind":               func(d *api.Doc) { d.Nodes[2].Kind = api.Element },
		"a name":               func(d *api.Doc) { d.Nodes[1].Name = "P" },
		"an attribute's name":  func(d *api.Doc) { d.Nodes[1].Attrs[1].Name = "c" },
		"an attribute's value": func(d *api.Doc) { d.Nodes[1].Attrs[1].Value = "3" },
		"attributes' order":    func(d *api.Doc) { slices.Reverse(d.Nodes[1].Attrs) },
		"an attribute less":    func(d *api.Doc) { d.Nodes[1].Attrs = d.Nodes[1].Attrs[:1] },
		"an attribute more":    func(d *api.Doc) { d.Nodes[3].Attrs = []api.Attr{{}} },
		"a text":               func(d *api.Doc) { d.Nodes[2].Text = "y" },
		"an Up":                func(d *api.Doc) { d.Nodes[3].Up = 0 },
		"a Kid":                func(d *api.Doc) { d.Nodes[1].Kids[1] = 0 },
		"a Kid less":           func(d *api.Doc) { d.Nodes[1].Kids = d.Nodes[1].Kids[:1] },
		"a Kid more":           func(d *api.Doc) { d.Nodes[3].Kids = []int{1} },
		"a node less":          func(d *api.Doc) { d.Nodes = d.Nodes[:3] },
		"a node more":          func(d *api.Doc) { d.Nodes = append(d.Nodes, text(0, "z")) },
		"the Root":             func(d *api.Doc) { d.Nodes[0].Up = 0 },
		"nothing there":        func(d *api.Doc) { d.Nodes = nil },
	} {
		d := copied(base)
		turn(&d)
		if tree.Same(base, d) || tree.Same(d, base) {
			t.Errorf("%s: the same", what)
		}
		// Whether they may be is none of Same's.
		if !tree.Same(d, copied(d)) {
			t.Errorf("%s: not the same as itself", what)
		}
	}
	empty := copied(base)
	for i := range empty.Nodes {
		empty.Nodes[i].Attrs = append([]api.Attr{}, empty.Nodes[i].Attrs...)
		empty.Nodes[i].Kids = append([]int{}, empty.Nodes[i].Kids...)
	}
	if !tree.Same(base, empty) || !tree.Same(empty, base) || !tree.Same(api.Doc{}, api.Doc{Nodes: []api.Node{}}) {
		t.Error("a nil list and an empty one are not the same")
	}
	if tree.Same(api.Doc{}, made()) {
		t.Error("nothing is the same as the Root")
	}
}

// P13.2
func TestDeep(t *testing.T) {
	for _, c := range []struct {
		s    string
		want int
	}{
		{"", 0}, {"x", 1}, {"<br>", 1}, {"<b>x", 2}, {"<b></b>x", 1}, {"<b><i>x</i></b><b>", 3}, {"<b></b><b><i><u></u></i></b>x", 3},
		{strings.Repeat("<b>", 64), 64}, {strings.Repeat("<b>", 63) + "x</b></b>y", 64},
	} {
		if got := tree.Deep(parse(t, c.s)); got != c.want {
			t.Errorf("Deep of %q is %d, want %d", c.s, got, c.want)
		}
	}
	// Levels that do not stand one behind the other.
	d := made(element(0, "a"), element(0, "b"), element(1, "c"), element(2, "d"), text(3, "x"), text(0, "y"))
	if got := tree.Deep(d); got != 3 {
		t.Errorf("%d, want 3", got)
	}
	if got := tree.Deep(api.Doc{}); got != 0 {
		t.Errorf("%d of nothing", got)
	}
}

// P13.3
func TestWrite(t *testing.T) {
	d := made(
		element(0, "p", "a", "<\"&>'\u00a0\r", "b", ""), // 1
		text(1, "<\"&>'\u00a0\r"),                       // 2
		element(1, "br", "c", "/"),                      // 3
		element(0, "script", "src", "a&b"),              // 4
		text(4, "<&\r\u00a0</script>"),                  // 5
		element(0, "style"),                             // 6
		text(6, "<&>"),                                  // 7
		element(0, "title"),                             // 8
		text(8, "<&>"),                                  // 9
		element(0, "hr"),                                // 10
		text(10, "<"),                                   // 11
		element(10, "i"),                                // 12
		element(4, "b"),                                 // 13
		text(13, "<&"),                                  // 14
		text(4, "&"),                                    // 15
		text(0, "\xff\x00"),                             // 16
		text(0, "&lt;"),                                 // 17
	)
	p := `<p a="<&quot;&amp;>'&nbsp;&#13;" b="">&lt;"&amp;&gt;'&nbsp;&#13;<br c="/"></p>`
	script := "<&\r\u00a0</script><b>&lt;&amp;</b>&"
	whole := p + `<script src="a&amp;b">` + script + "</script><style><&></style><title>&lt;&amp;&gt;</title><hr>&lt;<i></i>\xff\x00&amp;lt;"
	for at, want := range []string{
		0: whole, 1: `&lt;"&amp;&gt;'&nbsp;&#13;<br c="/">`, 2: `&lt;"&amp;&gt;'&nbsp;&#13;`, 3: "",
		4: script, 5: "<&\r\u00a0</script>", 6: "<&>", 7: "<&>", 8: "&lt;&amp;&gt;", 9: "&lt;&amp;&gt;",
		10: "&lt;<i></i>", 11: "&lt;", 12: "", 13: "&lt;&amp;", 14: "&lt;&amp;", 15: "&", 16: "\xff\x00", 17: "&amp;lt;",
	} {
		if got, why := tree.Write(d, at); got != want || why != api.OK {
			t.Errorf("Write at %d is %q, %v, want %q", at, got, why, want)
		}
		if as, _ := written(d, at); as != want {
			t.Errorf("as worded at %d: %q", at, as)
		}
	}
	for _, at := range []int{-1, -2, 18, 19, 1 << 62, -1 << 63} {
		if got, why := tree.Write(d, at); got != "" || why != api.ErrMany {
			t.Errorf("Write at %d is %q, %v", at, got, why)
		}
	}
	for _, at := range []int{-1, 0, 1} {
		if got, why := tree.Write(api.Doc{}, at); got != "" || why != api.ErrMany {
			t.Errorf("Write of nothing at %d is %q, %v", at, got, why)
		}
	}
	if got, why := tree.Write(made(), 0); got != "" || why != api.OK {
		t.Errorf("Write of the Root alone is %q, %v", got, why)
	}
}

// P13.3: what is written of what was parsed.
func TestWriteParsed(t *testing.T) {
	for _, c := range []struct{ s, want string }{
		{"<ul><li>a<li>b</ul>", "<ul><li>a</li><li>b</li></ul>"},
		{"<!doctype html><!--c--><P A=1 a=2>x&copy;&lt", `<p a="1">x©&lt;</p>`},
		{"<br/><p/>x", "<br><p>x</p>"},
		{"<script>a<b&&lt;</script>", "<script>a<b&&lt;</script>"},
		{"<style>a>b", "<style>a>b</style>"},
		{"<textarea>a<b&&lt;</textarea>", "<textarea>a&lt;b&amp;&lt;</textarea>"},
		{"<img alt='\"' src=a/b>", `<img alt="&quot;" src="a/b">`},
		{"a < b", "a &lt; b"},
		{"&#13;\r", "&#13;\n"},
		{"<table><td>a<td>b", "<table><td>a</td><td>b</td></table>"},
	} {
		d := parse(t, c.s)
		if got, why := tree.Write(d, 0); got != c.want || why != api.OK {
			t.Errorf("%q is written as %q, %v, want %q", c.s, got, why, c.want)
		}
	}
	for _, name := range allNames() {
		want := "<" + name + "></" + name + ">"
		if slices.Contains(voidNames, name) {
			want = "<" + name + ">"
		}
		if got, why := tree.Write(made(element(0, name)), 0); got != want || why != api.OK {
			t.Errorf("%s is written as %q, %v", name, got, why)
		}
	}
}

// P13.3: the text has at most 4 * 2^16 bytes, those of the tags among them; what lies elsewhere does not count.
func TestWriteSize(t *testing.T) {
	const most = 1 << 18
	for _, c := range []struct {
		what string
		size int // of it without what is repeated
		make func(fill string) api.Doc
	}{
		{"a text", 0, func(fill string) api.Doc { return made(text(0, fill)) }},
		{"a text in an element", 7, func(fill string) api.Doc { return made(element(0, "p"), text(1, fill)) }},
		{"in a void one", 4, func(fill string) api.Doc { return made(element(0, "br"), text(1, fill)) }},
		{"in a script", 17, func(fill string) api.Doc { return made(element(0, "script"), text(1, fill)) }},
		{"an attribute's value", 12, func(fill string) api.Doc { return made(element(0, "p", "a", fill)) }},
		{"an attribute's name", 11, func(fill string) api.Doc { return made(element(0, "p", fill, "")) }},
		{"beside a void one", 4, func(fill string) api.Doc { return made(element(0, "br"), text(0, fill)) }},
		{"texts", 7, func(fill string) api.Doc {
			return made(text(0, fill[:9]), element(0, "p"), text(2, fill[9:99]), text(0, fill[99:]))
		}},
	} {
		for _, more := range []int{-1, 0, 1, 5000} {
			fill := strings.Repeat("x", most-c.size+more)
			got, why := tree.Write(c.make(fill), 0)
			if more > 0 && (got != "" || why != api.ErrMany) || more <= 0 && (len(got) != most+more || why != api.OK) {
				t.Errorf("%s: Write of %d bytes has %d, %v", c.what, most+more, len(got), why)
			}
		}
	}
	// As it is encoded, it counts.
	for _, c := range []struct {
		sign string
		size int
	}{{"&", 5}, {"<", 4}, {"\r", 5}, {"\u00a0", 6}} {
		fits := strings.Repeat(c.sign, most/c.size) + strings.Repeat("x", most%c.size)
		if got, why := tree.Write(made(text(0, fits)), 0); len(got) != most || why != api.OK {
			t.Errorf("%q: %d, %v", c.sign, len(got), why)
		}
		if got, why := tree.Write(made(text(0, fits+"x")), 0); got != "" || why != api.ErrMany {
			t.Errorf("%q: %d, %v", c.sign, len(got), why)
		}
		if got, why := tree.Write(made(text(0, fits+"x")), 1); got != "" || why != api.ErrMany {
			t.Errorf("%q by itself: %d, %v", c.sign, len(got), why)
		}
	}
	d := made(element(0, "p"), text(1, strings.Repeat("x", most-6)), text(0, strings.Repeat("&", most)))
	for at, want := range []api.Errno{api.ErrMany, api.OK, api.OK, api.ErrMany} {
		if _, why := tree.Write(d, at); why != want {
			t.Errorf("at %d: %v, want %v", at, why, want)
		}
	}
	// What was parsed can be too long, too.
	if got, why := tree.Write(parse(t, strings.Repeat("&", 1<<16)), 0); got != "" || why != api.ErrMany {
		t.Errorf("%d, %v", len(got), why)
	}
}

// P13.6: up to 2^16 bytes what is written is parsed.
func TestAgain(t *testing.T) {
	for _, size := range []int{1<<16 - 1, 1 << 16, 1<<16 + 1} {
		d := parse(t, "<p>"+strings.Repeat("x", size-7))
		s, why := tree.Write(d, 0)
		if len(s) != size || why != api.OK {
			t.Fatalf("%d bytes, %v, want %d", len(s), why, size)
		}
		again, why := tree.Parse(s)
		if size > 1<<16 {
			if why != api.ErrMany {
				t.Errorf("%d bytes: %v", size, why)
			}
		} else if why != api.OK || !same(again, d) {
			t.Errorf("%d bytes: %v", size, why)
		}
	}
}

// R4: nothing is written into what is handed in, and what is answered is the caller's.
func TestOwn(t *testing.T) {
	s := "<html a=1><body b><p c=2>x<p>y</p><html d=3><body e>z<br>"
	d := parse(t, s)
	before := copied(d)
	tree.May(d)
	tree.Same(d, d)
	tree.Deep(d)
	for at := range d.Nodes {
		tree.Write(d, at)
	}
	if !same(d, before) {
		t.Error("a call wrote into what it was handed")
	}
	// No two lists of the answer share memory: each is filled as far as it goes.
	for i := range d.Nodes {
		n := &d.Nodes[i]
		attrs, kids := n.Attrs[:cap(n.Attrs)], n.Kids[:cap(n.Kids)]
		for j := range attrs {
			attrs[j] = api.Attr{Name: fmt.Sprint("of", i)}
		}
		for j := range kids {
			kids[j] = -i
		}
	}
	for i, n := range d.Nodes {
		for _, attr := range n.Attrs {
			if attr.Name != fmt.Sprint("of", i) {
				t.Errorf("%d has %s", i, attr.Name)
			}
		}
		for _, kid := range n.Kids {
			if kid != -i {
				t.Errorf("%d has the Kid %d", i, kid)
			}
		}
	}
	if again := parse(t, s); !same(again, before) {
		t.Error("a later answer is turned")
	}
}

// R1: long and wrong inputs end, too.
func TestLong(t *testing.T) {
	for _, part := range []string{"<", "</", "<p>", "</p>", "<li>", "<a", "a<!>", "<html a>", "<html a b=c>", "<table>", "</table>", "<br>", "<td>x", "&", "<script>", "\x00", "\xff", "<b></b>", "<p><b>", "x<p>", "<title>"} {
		for _, size := range []int{1 << 12, 1 << 16, 1<<16 + 1} {
			s := strings.Repeat(part, size/len(part)+1)[:size]
			d, why := tree.Parse(s)
			if want, wantWhy := worded(s); !same(d, want) || why != wantWhy {
				t.Errorf("%d bytes of %q: %v, want %v", size, part, why, wantWhy)
			}
			if why == api.OK {
				follows(t, s, d)
			}
		}
	}
	// What is far too long is not written first: these would have 2^40 bytes.
	attrs := slices.Repeat([]api.Attr{{Name: "a", Value: strings.Repeat("&", 1<<20)}}, 1<<20)
	d := made(element(0, "p"))
	d.Nodes[1].Attrs = attrs
	if got, why := tree.Write(d, 0); got != "" || why != api.ErrMany {
		t.Errorf("%d, %v", len(got), why)
	}
	if got, why := tree.Write(d, 1); got != "" || why != api.OK {
		t.Errorf("%d, %v", len(got), why)
	}
}
