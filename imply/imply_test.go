package imply_test

import (
	"math"
	"math/rand"
	"slices"
	"strings"
	"testing"

	"cringle/api"
	"cringle/imply"
	"cringle/tree"
	"cringle/url"
)

func parse(t *testing.T, s string) api.Doc {
	t.Helper()
	d, why := tree.Parse(s)
	if why != api.OK {
		t.Fatalf("Parse(%.80q): %v", s, why)
	}
	return d
}

const base = "http://ex.org/a/b?c#d"

func at(t *testing.T, s string) api.URL {
	t.Helper()
	u, why := url.Parse(s)
	if why != api.OK {
		t.Fatalf("Parse(%.80q): %v", s, why)
	}
	return u
}

// made is a tree of nodes whose Kids are found by their Ups.
func made(nodes ...api.Node) api.Doc {
	d := api.Doc{Nodes: append([]api.Node{{Kind: api.Root, Up: -1}}, nodes...)}
	for at, n := range d.Nodes {
		if n.Up >= 0 {
			d.Nodes[n.Up].Kids = append(d.Nodes[n.Up].Kids, at)
		}
	}
	return d
}

func element(up int, name string, pairs ...string) api.Node {
	n := api.Node{Kind: api.Element, Name: name, Up: up}
	for i := 0; i < len(pairs); i += 2 {
		n.Attrs = append(n.Attrs, api.Attr{Name: pairs[i], Value: pairs[i+1]})
	}
	return n
}

func text(up int, s string) api.Node { return api.Node{Kind: api.Text, Text: s, Up: up} }

// copied shares nothing with its tree.
func copied(d api.Doc) api.Doc {
	nodes := slices.Clone(d.Nodes)
	for i := range nodes {
		nodes[i].Attrs = slices.Clone(nodes[i].Attrs)
		nodes[i].Kids = slices.Clone(nodes[i].Kids)
	}
	return api.Doc{Nodes: nodes}
}

// lists calls use at all lists of at most most of the parts.
func lists(most int, use func(...string), parts ...string) {
	var on func([]string, int)
	on = func(list []string, left int) {
		use(list...)
		if left == 0 {
			return
		}
		for _, part := range parts {
			on(append(list[:len(list):len(list)], part), left-1)
		}
	}
	on(nil, most)
}

// P16.1
func TestIsName(t *testing.T) {
	for _, s := range []string{"a", "z", "card", "x-y", "a--b", "a1", "z-9", "a-1-b", strings.Repeat("a-", 1<<20) + "0"} {
		if !imply.IsName(s) {
			t.Errorf("%.80q is a name", s)
		}
	}
	for _, s := range []string{"", "-", "a-", "-a", "1", "1a", "A", "aB", "a b", " a", "a ", "a_", "a.b", "a\n", "é", "aé", "a\x00", "\xff", "a:b", "a{", "`", "a/", strings.Repeat("a-", 1<<20)} {
		if imply.IsName(s) {
			t.Errorf("%.80q is no name", s)
		}
	}
	// Each byte: first, within, last and alone.
	for c := range 256 {
		b := string([]byte{byte(c)})
		for _, s := range []string{b, b + "a", "a" + b, "a" + b + "a", "a0" + b + "-z"} {
			if got, want := imply.IsName(s), wordedIsName(s); got != want {
				t.Errorf("IsName of %q is %v", s, got)
			}
		}
	}
	lists(6, func(parts ...string) {
		s := strings.Join(parts, "")
		if got, want := imply.IsName(s), wordedIsName(s); got != want {
			t.Fatalf("IsName of %q is %v", s, got)
		}
	}, "a", "z", "-", "0", "9", "A", "")
}

// P16.1
func TestRoots(t *testing.T) {
	for _, c := range []struct {
		s    string
		want []string
	}{
		{"<p>x</p>", nil},
		{"<p class>x</p>", nil},
		{"<p class=h-card>", []string{"h-card"}},
		{"<p class='h-entry h-card'>", []string{"h-card", "h-entry"}},
		{"<p class='h-b  x h-a\nh-b h-a\th-a-b h-a1 h-a'>", []string{"h-a", "h-a-b", "h-a1", "h-b"}},
		{"<p class='h-x--y h-z0'>", []string{"h-x--y", "h-z0"}},
		{"<p class='h-h-'>", nil},
		{"<p class='h-h-h'>", []string{"h-h-h"}},
		// What is no name makes none.
		{"<p class='h- h h-- h-1 h-1a h-a- h-A h-aB H-a xh-a h_a h-a_b h-é h-a. p-a u-h-a hh-a -h-a'>", nil},
		{"<p class='h-A h-a'>", []string{"h-a"}},
		{"<p id=h-a title=h-a>", nil},
		{"<p CLASS=h-a>", []string{"h-a"}},
		{"<p class='h-a&nbsp;h-b'>", nil},
		{"<img class=h-a>", []string{"h-a"}},
	} {
		if got := imply.Roots(parse(t, c.s), 1); !slices.Equal(got, c.want) {
			t.Errorf("Roots of %q are %q, want %q", c.s, got, c.want)
		}
	}
	// Only the first class counts, letter by letter.
	d := made(element(0, "p", "class", "a", "class", "h-a"), element(0, "p", "Class", "h-a"), element(0, "p", "class", "h-b", "class", "h-a"))
	for i, want := range [][]string{1: nil, 2: nil, 3: {"h-b"}} {
		if got := imply.Roots(d, i); !slices.Equal(got, want) {
			t.Errorf("%q, want %q", got, want)
		}
	}
}

// P16.2, P16.5, P16.6
func TestName(t *testing.T) {
	for _, c := range []struct{ s, want string }{
		{"<a class=h-card href=/x><img src=i alt=A></a>", "A"},
		{"<p> x <b>y</b>\n</p>", "x y"},
		{"<p></p>", ""},
		{"<p>a<br>b</p>", "a\nb"},
		// Its own, if it has it, though it is empty.
		{"<img alt=' x '>", "x"},
		{"<area alt=x title=y>", "x"},
		{"<img alt='' src=y title=z>", ""},
		{"<img alt=' '>", ""},
		{"<img title=x>", ""},
		{"<img src=x>", ""},
		{"<abbr title='\tx'>y</abbr>", "x"},
		{"<abbr title=''>y</abbr>", ""},
		{"<abbr title><img alt=x></abbr>", ""},
		{"<abbr alt=x>y</abbr>", "y"},
		{"<p alt=x title=x>y</p>", "y"},
		{"<data value=x title=x>y</data>", "y"},
		{"<input value=x alt=x>", ""},
		{"<abbr title=x><img alt=y></abbr>", "x"},
		// Of the only way down, if it is not empty.
		{"<p>x<img alt=' y '>z</p>", "y"},
		{"<p>x<area alt=y>z</p>", "y"},
		{"<p>x<abbr title=y>z</abbr></p>", "y"},
		{"<p>x<abbr title=''>z</abbr></p>", "xz"},
		{"<p>x<abbr>z</abbr></p>", "xz"},
		{"<p>x<img alt='' src=y></p>", "x"},
		{"<p>x<img src=y></p>", "x y"},
		{"<p>x<img alt=' '></p>", ""},
		{"<p>x<img alt='&nbsp;'></p>", "\u00a0"},
		{"<p>x<a title=y>z</a></p>", "xz"},
		{"<abbr><img alt=x></abbr>", "x"},
		// Of the only way down of that.
		{"<p>x<b>y<img alt=z></b></p>", "z"},
		{"<p>x<b>y<area alt=z></b></p>", "z"},
		{"<p>x<b>y<abbr title=z>w</abbr></b></p>", "z"},
		{"<p>x<abbr title=''>y<img alt=z></abbr></p>", "z"},
		{"<p>x<abbr title=w>y<img alt=z></abbr></p>", "w"},
		{"<p>x<abbr title=' '>y<img alt=z></abbr></p>", ""},
		{"<p>x<b>y<img alt=''></b></p>", "xy"},
		{"<p>x<b>y<abbr title=''>z</abbr></b></p>", "xyz"},
		// No further.
		{"<p>x<b>y<i>z<abbr title=w>v</abbr></i></b></p>", "xyzv"},
		{"<p>x<b><i><img alt=y></i></b></p>", "xy"},
		// Alone among the Elements of any name.
		{"<p>x<abbr title=y>z</abbr><br></p>", "xz"},
		{"<p>x<b></b><abbr title=y>z</abbr></p>", "xz"},
		{"<p><abbr title=x>1</abbr><abbr title=y>2</abbr></p>", "12"},
		{"<p>x<b>y<abbr title=z>w</abbr><i></i></b></p>", "xyw"},
		{"<p>x<b><abbr title=z>w</abbr></b><i></i></p>", "xw"},
		// No root: it is no way, nor is what lies in it.
		{"<p>x<abbr class=h-a title=y>z</abbr></p>", "xz"},
		{"<p>x<abbr class='b h-a' title=y>z</abbr></p>", "xz"},
		{"<p>x<abbr class='p-a h-A' title=y>z</abbr></p>", "y"},
		{"<p>x<b><abbr class=h-a title=y>z</abbr></b></p>", "xz"},
		{"<p>x<b class=h-a><abbr title=y>z</abbr></b></p>", "xz"},
		{"<p>x<b>y<i class=h-a><abbr title=w>z</abbr></i></b></p>", "xyz"},
		// Itself it may be one.
		{"<abbr class=h-a title=x>y</abbr>", "x"},
		{"<p class=h-a><b><img alt=x></b></p>", "x"},
	} {
		if got := imply.Name(parse(t, c.s), 1); got != c.want {
			t.Errorf("Name of %q is %q, want %q", c.s, got, c.want)
		}
	}
	// A way down may lead on from void ones, and stand behind another's things.
	d := made(element(0, "p"), element(0, "b"), element(1, "img", "alt", ""), element(2, "i"), element(3, "abbr", "title", "x"), text(5, "y"))
	if got := imply.Name(d, 1); got != "x" {
		t.Errorf("%q", got)
	}
	// Of attributes that come again the first counts.
	d = made(element(0, "img", "alt", "", "alt", "x"), element(0, "p"), element(2, "abbr", "title", "", "title", "x"), text(3, "y"))
	if own, down := imply.Name(d, 1), imply.Name(d, 2); own != "" || down != "y" {
		t.Errorf("%q, %q", own, down)
	}
}

// told is what a call answers, ahead of which a true is marked by a `!`.
func told(s string, is bool) string {
	if is {
		return "!" + s
	}
	return s
}

// P16.3, P16.5
func TestPhoto(t *testing.T) {
	for _, c := range []struct{ s, want string }{
		{"<a class=h-card href=/x><img src=i alt=A></a>", "!http://ex.org/a/i"},
		{"<p>x</p>", ""},
		// Its own, if it has it.
		{"<img src=' /x '>", "!http://ex.org/x"},
		{"<img src>", "!http://ex.org/a/b?c"},
		{"<img src=' http://:1 '>", "!http://:1"},
		{"<img src='mailto:x\n'>", "!mailto:x"},
		{"<img alt=x>", ""},
		{"<img data=x href=x>", ""},
		{"<object data='\tx'></object>", "!http://ex.org/a/x"},
		{"<object data></object>", "!http://ex.org/a/b?c"},
		{"<object src=x></object>", ""},
		{"<video src=x poster=x></video>", ""},
		{"<object data=x><img src=y></object>", "!http://ex.org/a/x"},
		{"<object><img src=y></object>", "!http://ex.org/a/y"},
		{"<img class=h-a src=x>", "!http://ex.org/a/x"},
		// The only img with it among what lies in it.
		{"<p>x<img src=' y '>z</p>", "!http://ex.org/a/y"},
		{"<p><b></b><img src=x><i></i></p>", "!http://ex.org/a/x"},
		{"<p><img alt=y><img src=x><img></p>", "!http://ex.org/a/x"},
		{"<p><img src=x><img src=y></p>", ""},
		{"<p><img src=x><img src></p>", ""},
		{"<p><img src=x><img src=x><img src=x></p>", ""},
		{"<p><img src></p>", "!http://ex.org/a/b?c"},
		{"<p><img src=' http://:1 '></p>", "!http://:1"},
		// No root; one hinders another.
		{"<p><img class=h-a src=x></p>", ""},
		{"<p><img class=h-a src=x><img src=y></p>", ""},
		{"<p><img src=y><img class=h-a src=x></p>", ""},
		{"<p><img class=h-a src=x><img class=h-b src=y></p>", ""},
		{"<p><img class=h-a><img src=y></p>", "!http://ex.org/a/y"},
		{"<p><img class='h- h-A u-a' src=y></p>", "!http://ex.org/a/y"},
		// Else of an object.
		{"<p><object data=x></object><img src=y></p>", "!http://ex.org/a/y"},
		{"<p><object data=x></object></p>", "!http://ex.org/a/x"},
		{"<p>x<b></b><object data=x></object>y</p>", "!http://ex.org/a/x"},
		{"<p><object data=x></object><img src=y><img src=z></p>", "!http://ex.org/a/x"},
		{"<p><object data=x></object><img class=h-a src=y></p>", "!http://ex.org/a/x"},
		{"<p><object data=x></object><object data=y></object></p>", ""},
		{"<p><object data=x></object><object></object></p>", "!http://ex.org/a/x"},
		{"<p><object class=h-a data=x></object></p>", ""},
		{"<p><object class=h-a data=x></object><object data=y></object></p>", ""},
		// Both of these of the only way down.
		{"<p>x<b>y<img src=z>w</b></p>", "!http://ex.org/a/z"},
		{"<p><b><img src=x><img><i></i></b></p>", "!http://ex.org/a/x"},
		{"<p><b><object data=x></object><img src=y></b></p>", "!http://ex.org/a/y"},
		{"<p><b><object data=x></object><img></b></p>", "!http://ex.org/a/x"},
		{"<p><b><object data=x></object><img src=y><img src=z></b></p>", "!http://ex.org/a/x"},
		{"<p><b><img src=x><img src=y></b></p>", ""},
		{"<p><b><img class=h-a src=x></b></p>", ""},
		{"<p><b><object class=h-a data=x></object></b></p>", ""},
		{"<p><object><img src=x></object></p>", "!http://ex.org/a/x"},
		{"<p><object data=x><img src=y></object></p>", "!http://ex.org/a/x"},
		{"<p class=h-a><b class=u-a><img src=x></b></p>", "!http://ex.org/a/x"},
		// Not if there are more, not if it is a root, and no further.
		{"<p><b><img src=x></b><br></p>", ""},
		{"<p><b></b><b><img src=x></b></p>", ""},
		{"<p><b class=h-a><img src=x></b></p>", ""},
		{"<p><b class=h-a><object data=x></object></b></p>", ""},
		{"<p><object class=h-a data=x><img src=x></object></p>", ""},
		{"<p><b><i><img src=x></i></b></p>", ""},
		{"<p><b><i><object data=x></object></i></b></p>", ""},
		{"<p><a href=x></a><area href=x></p>", ""},
	} {
		d := parse(t, c.s)
		if got := told(imply.Photo(d, 1, at(t, base))); got != c.want {
			t.Errorf("Photo of %q is %q, want %q", c.s, got, c.want)
		}
	}
	// A base that may not be leaves links as they are, trimmed.
	if got := told(imply.Photo(parse(t, "<p><img src=' x y '></p>"), 1, api.URL{})); got != "!x y" {
		t.Errorf("%q", got)
	}
	// The first src counts, letter by letter.
	d := made(element(0, "p"), element(1, "img", "Src", "x"), element(1, "IMG", "src", "x"), element(1, "img", "src", "y", "src", "x"), text(1, "z"))
	if got := told(imply.Photo(d, 1, at(t, base))); got != "!http://ex.org/a/y" {
		t.Errorf("%q", got)
	}
}

// P16.4, P16.5
func TestLink(t *testing.T) {
	for _, c := range []struct{ s, want string }{
		{"<a class=h-card href=/x><img src=i alt=A></a>", "!http://ex.org/x"},
		{"<p>x</p>", ""},
		// Its own, if it has it.
		{"<a href=' x '>y</a>", "!http://ex.org/a/x"},
		{"<a href>y</a>", "!http://ex.org/a/b?c"},
		{"<a href=' http://:1 '>y</a>", "!http://:1"},
		{"<a src=x>y</a>", ""},
		{"<area href='\nx'>", "!http://ex.org/a/x"},
		{"<area alt=x>", ""},
		{"<link href=x>", ""},
		{"<p href=x>y</p>", ""},
		{"<a href=x><area href=y></a>", "!http://ex.org/a/x"},
		{"<a><area href=y></a>", "!http://ex.org/a/y"},
		{"<a class=h-a href=x></a>", "!http://ex.org/a/x"},
		// The only a with it among what lies in it, that is no root.
		{"<p>x<a href=' y '>z</a></p>", "!http://ex.org/a/y"},
		{"<p><b></b><a href=x></a><a></a><i></i></p>", "!http://ex.org/a/x"},
		{"<p><a href=x></a><a href=y></a></p>", ""},
		{"<p><a href></a></p>", "!http://ex.org/a/b?c"},
		{"<p><a class=h-a href=x></a></p>", ""},
		{"<p><a class=h-a href=x></a><a href=y></a></p>", ""},
		{"<p><a href=y></a><a class=h-a href=x></a></p>", ""},
		{"<p><a class=h-a></a><a href=y></a></p>", "!http://ex.org/a/y"},
		{"<p><a class='u-a h-1' href=y></a></p>", "!http://ex.org/a/y"},
		// Of the only area so.
		{"<p><area href=x><a href=y></a></p>", "!http://ex.org/a/y"},
		{"<p><b></b><area href=x></p>", "!http://ex.org/a/x"},
		{"<p><area href=x><a href=y></a><a href=z></a></p>", "!http://ex.org/a/x"},
		{"<p><area href=x><a class=h-a href=y></a></p>", "!http://ex.org/a/x"},
		{"<p><area href=x><area href=y></p>", ""},
		{"<p><area href=x><area></p>", "!http://ex.org/a/x"},
		{"<p><area class=h-a href=x></p>", ""},
		{"<p><area class=h-a href=x><area href=y></p>", ""},
		// Then of the only way down.
		{"<p>x<b>y<a href=z>w</a></b></p>", "!http://ex.org/a/z"},
		{"<p><b><i></i><area href=x></b></p>", "!http://ex.org/a/x"},
		{"<p><b><area href=x><a href=y></a></b></p>", "!http://ex.org/a/y"},
		{"<p><b><area href=x><a href=y></a><a href=z></a></b></p>", "!http://ex.org/a/x"},
		{"<p><b><a href=x></a><a href=y></a></b></p>", ""},
		{"<p><b><a class=h-a href=x></a></b></p>", ""},
		{"<p><a><a href=x></a></a></p>", "!http://ex.org/a/x"},
		{"<p><a href=y><a href=x></a></a></p>", "!http://ex.org/a/y"},
		{"<p><b><a href=x></a></b><br></p>", ""},
		{"<p><b class=h-a><a href=x></a></b></p>", ""},
		{"<p><a class=h-a href=x><area href=y></a></p>", ""},
		{"<p><b><i><a href=x></a></i></b></p>", ""},
		{"<p><img src=x><object data=x></object></p>", ""},
	} {
		d := parse(t, c.s)
		if got := told(imply.Link(d, 1, at(t, base))); got != c.want {
			t.Errorf("Link of %q is %q, want %q", c.s, got, c.want)
		}
	}
	if got := told(imply.Link(parse(t, "<p><a href=' x y '></a></p>"), 1, api.URL{})); got != "!x y" {
		t.Errorf("%q", got)
	}
}

// check holds all calls at a place of a tree that may be against what the chapter's words say.
func check(t *testing.T, d api.Doc, i int, u api.URL) {
	t.Helper()
	var roots []string
	var want [3]string
	if d.Nodes[i].Kind == api.Element {
		roots, want = wordedRoots(d, i), [3]string{wordedName(d, i), told(wordedPhoto(d, i, u)), told(wordedLink(d, i, u))}
	}
	got := [3]string{imply.Name(d, i), told(imply.Photo(d, i, u)), told(imply.Link(d, i, u))}
	if got != want || strings.Trim(got[0], blanks) != got[0] {
		t.Fatalf("at %d %q are told, want %q: %+v", i, got, want, d)
	}
	if got := imply.Roots(d, i); !slices.Equal(got, roots) || !slices.IsSorted(got) {
		t.Fatalf("Roots at %d are %q, want %q: %+v", i, got, roots, d)
	}
}

// pieces are what documents are made of.
func pieces() []string {
	return []string{
		"x", " ", "<p>", "</p>", "<p class=h-a>", "<b class='p-a u-a'>", "<b>", "</b>", "<i class='h-c h-b x h-c'>", "</i>", "<br>",
		"<img>", "<img src=a>", "<img src=' b ' alt=' c '>", "<img alt=''>", "<img class=h-d src=d alt=e>", "<object>", "</object>", "<object data=' /f'>", "<object class=h-e data=g>",
		"<a>", "</a>", "<a href=' h '>", "<a class='h-f p-a' href=i>", "<area href=j>", "<area href=k alt=l>", "<area class=h-g href=m alt=n>", "<area alt=' '>",
		"<abbr>", "</abbr>", "<abbr title=' o '>", "<abbr title=''>", "<abbr class=h-h title=p>", "<data value=q title=r>", "</data>", "<script>s</script>",
	}
}

// P16.1 to P16.6: at each place of many documents.
func TestDocuments(t *testing.T) {
	u := at(t, base)
	use := func(parts ...string) {
		d := parse(t, strings.Join(parts, ""))
		for i := range d.Nodes {
			check(t, d, i, u)
		}
	}
	lists(2, use, pieces()...)
	lists(3, func(parts ...string) { use("<p>" + strings.Join(parts, "")) }, pieces()...)
	lists(5, use, "<b>", "</b>", "<abbr title=x>", "</abbr>", "<i class=h-a>", "y")
	lists(5, use, "<b>", "</b>", "<img src=x>", "<object data=y>", "</object>", "<img class=h-a src=z>")
	lists(5, use, "<b>", "</b>", "<area href=x>", "<a href=y>", "</a>", "<a class=h-a href=z>")
	chance := rand.New(rand.NewSource(18))
	for range 4000 {
		var s []string
		for range 1 + chance.Intn(14) {
			s = append(s, pieces()[chance.Intn(len(pieces()))])
		}
		use(s...)
	}
}

// madeByChance are trees that were not parsed: void ones have something in them, attributes come again, and what lies in a node does not stand together.
func madeByChance(count, most int) []api.Doc {
	chance := rand.New(rand.NewSource(19))
	one := func(of ...string) string { return of[chance.Intn(len(of))] }
	all := make([]api.Doc, count)
	for i := range all {
		free := []int{0}
		var nodes []api.Node
		for range chance.Intn(most) {
			up := free[chance.Intn(len(free))]
			if chance.Intn(4) == 0 {
				nodes = append(nodes, text(up, one("x", " ", "\n", "\u00a0", "\xff")))
				continue
			}
			n := element(up, one("p", "b", "img", "img", "area", "abbr", "a", "a", "object", "IMG", "link", "script", "br"))
			for range chance.Intn(4) {
				n.Attrs = append(n.Attrs, api.Attr{
					Name:  one("class", "alt", "title", "href", "href", "src", "src", "data", "Class", "Href"),
					Value: one("", " ", "h-a", "h-b\th-a", "h-A u-a", " a b ", "/x y", "\xff", "http://:1 "),
				})
			}
			nodes = append(nodes, n)
			free = append(free, len(nodes))
		}
		all[i] = made(nodes...)
	}
	return all
}

// P16.1 to P16.6: at each place of trees that were not parsed.
func TestTrees(t *testing.T) {
	u := at(t, base)
	for _, most := range []int{5, 12} {
		for _, d := range madeByChance(6000, most) {
			if !tree.May(d) {
				t.Fatalf("%+v may not be", d)
			}
			for i := range d.Nodes {
				check(t, d, i, u)
				check(t, d, i, api.URL{})
			}
		}
	}
}

// tellsNothing tests that all answers are nothing, empty, false.
func tellsNothing(t *testing.T, what string, d api.Doc, i int) {
	t.Helper()
	u := at(t, base)
	if got := [3]string{imply.Name(d, i), told(imply.Photo(d, i, u)), told(imply.Link(d, i, u))}; got != [3]string{} {
		t.Errorf("%s: at %d %q are told", what, i, got)
	}
	if got := imply.Roots(d, i); len(got) != 0 {
		t.Errorf("%s: Roots at %d are %q", what, i, got)
	}
}

// P16.1 to P16.4: of no Element's place there is nothing; a Root and a Text are none.
func TestNoElement(t *testing.T) {
	d := parse(t, "x<a class=h-a href=x><img src=y alt=z></a>")
	for _, i := range []int{0, 1, -1, -2, len(d.Nodes), len(d.Nodes) + 1, 1 << 31, math.MaxInt, math.MinInt} {
		tellsNothing(t, "parsed", d, i)
	}
	for _, d := range []api.Doc{{}, {Nodes: []api.Node{}}, made()} {
		for i := -1; i <= 2; i++ {
			tellsNothing(t, "no Element", d, i)
		}
	}
}

// P16.1 to P16.4: of a tree that may not be there is nothing.
func TestNoTree(t *testing.T) {
	// Each of its Elements tells something by its attributes alone.
	base := made(element(0, "img", "alt", "x", "src", "x"), text(1, "x"), element(1, "a", "href", "x", "class", "h-a"), text(3, "y"), text(0, "z"))
	for what, turn := range map[string]func(n []api.Node){
		"Root's kind":       func(n []api.Node) { n[0].Kind = api.Element },
		"Root's Up":         func(n []api.Node) { n[0].Up = 0 },
		"another kind":      func(n []api.Node) { n[2].Kind = 4 },
		"no name":           func(n []api.Node) { n[3].Name = "" },
		"an Element's Text": func(n []api.Node) { n[1].Text = "x" },
		"a nameless one":    func(n []api.Node) { n[3].Attrs[0].Name = "" },
		"an empty Text":     func(n []api.Node) { n[5].Text = "" },
		"a Kid past it":     func(n []api.Node) { n[1].Kids = []int{2, 3, 6} },
		"a Kid below 0":     func(n []api.Node) { n[0].Kids = []int{-1, 1, 5} },
		"a Kid twice":       func(n []api.Node) { n[1].Kids = []int{2, 3, 3} },
		"a Kid less":        func(n []api.Node) { n[1].Kids = []int{2} },
		"itself as a Kid":   func(n []api.Node) { n[3].Kids = []int{3, 4} },
		"in itself":         func(n []api.Node) { n[3].Up, n[3].Kids, n[1].Kids = 3, []int{3, 4}, []int{2} },
		"an Up past it":     func(n []api.Node) { n[3].Up = 6 },
		"an Up below 0":     func(n []api.Node) { n[3].Up = math.MinInt },
	} {
		d := copied(base)
		turn(d.Nodes)
		for i := -2; i <= len(d.Nodes)+1; i++ {
			tellsNothing(t, what, d, i)
		}
	}
	for _, count := range []int{4096, 4097} {
		nodes := slices.Repeat([]api.Node{element(1, "b")}, count-1)
		nodes[0], nodes[count-2] = element(0, "a", "class", "h-a", "href", "y"), element(1, "img", "src", "x")
		d := made(nodes...)
		if count > 4096 {
			tellsNothing(t, "too many nodes", d, 1)
			continue
		}
		check(t, d, 1, at(t, "http://ex.org/"))
		if name, photo := imply.Name(d, 1), told(imply.Photo(d, 1, api.URL{})); name != "x" || photo != "!x" {
			t.Errorf("%d nodes tell %q, %q", count, name, photo)
		}
	}
}

// R3, R4: nothing is written into what is handed in or kept, and what is answered is the caller's.
func TestOwn(t *testing.T) {
	d := parse(t, "<p class='h-b h-a h-b'><a href=' x '><img src=' y ' alt=' z '></a></p>")
	before := copied(d)
	for range 2 {
		for i := range d.Nodes {
			check(t, d, i, at(t, base))
		}
		roots := imply.Roots(d, 1)
		for i := range roots[:cap(roots)] {
			roots[:cap(roots)][i] = "h-z"
		}
		if !tree.Same(d, before) {
			t.Fatalf("a call wrote into what it was handed: %+v", d)
		}
	}
}

// R1: great inputs end, too.
func TestGreat(t *testing.T) {
	deep := make([]api.Node, 4095)
	for i := range deep {
		deep[i] = element(i, "b", "class", "a")
	}
	deep[4094] = text(4094, " x ")
	d := made(deep...)
	if got := [3]string{imply.Name(d, 1), told(imply.Photo(d, 1, at(t, base))), told(imply.Link(d, 4093, at(t, base)))}; got != [3]string{"x"} {
		t.Errorf("%q", got)
	}
	long := strings.Repeat(" ", 1<<20)
	d = made(element(0, "p", "class", strings.Repeat("h-b h-a h- ", 1<<17)), element(1, "a", "href", long+"x"+long), element(2, "img", "alt", long+"y"+long))
	if got := imply.Roots(d, 1); !slices.Equal(got, []string{"h-a", "h-b"}) {
		t.Errorf("%.80q", got)
	}
	if name, link := imply.Name(d, 1), told(imply.Link(d, 1, at(t, base))); name != "y" || link != "!http://ex.org/a/x" {
		t.Errorf("%.80q, %.80q", name, link)
	}
}
