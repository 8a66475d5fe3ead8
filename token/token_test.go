package token_test

import (
	"fmt"
	"math/rand"
	"reflect"
	"strings"
	"testing"

	"cringle/api"
	"cringle/token"
)

func start(name string, pairs ...string) token.Token {
	t := token.Token{Kind: token.Start, Name: name}
	for i := 0; i < len(pairs); i += 2 {
		t.Attrs = append(t.Attrs, api.Attr{Name: pairs[i], Value: pairs[i+1]})
	}
	return t
}

func self(name string, pairs ...string) token.Token {
	t := start(name, pairs...)
	t.Self = true
	return t
}

func end(name string) token.Token { return token.Token{Kind: token.End, Name: name} }

func text(s string) token.Token { return token.Token{Kind: token.Text, Text: s} }

func comment(s string) token.Token { return token.Token{Kind: token.Comment, Text: s} }

func doctype() token.Token { return token.Token{Kind: token.Doctype} }

// same holds tokens against each other without the package's own Same; a nil list is an empty one.
func same(a, b token.Token) bool {
	if len(a.Attrs) == 0 && len(b.Attrs) == 0 {
		a.Attrs, b.Attrs = nil, nil
	}
	return reflect.DeepEqual(a, b)
}

func sameAll(a, b []token.Token) bool {
	if len(a) != len(b) {
		return false
	}
	for i := range a {
		if !same(a[i], b[i]) {
			return false
		}
	}
	return true
}

// texts calls use at all texts of at most most of the parts.
func texts(most int, use func(string), parts ...string) {
	var on func(string, int)
	on = func(s string, left int) {
		use(s)
		if left == 0 {
			return
		}
		for _, part := range parts {
			on(s+part, left-1)
		}
	}
	on("", most)
}

// pieces are what documents are made of, with bytes that are no text.
func pieces() []string {
	return []string{"<", "<", ">", ">", ">", "/", "/>", "</", "<!", "<?", "<!-", "<!--", "-->", "--!>", "->", "-", "=", "=", "\"", "\"", "'", "'", " ", " ", "\t", "\n", "\f", "\r", "\r\n", "\v", "\x00", "\u00a0", "é", "ſ", "\xff", "\xe2\x82",
		"a", "b", "A", "B", "a=1", " a='", " b=\"", " c = d", " e=f/>", "1", "&", ";", "&lt;", "&lt", "&lt=", "&amp", "&#13;", "&#0;", "&nbsp;", "&#x3c", "&copyx", "&eacute;",
		"<a", "<b>", "</a", "</b>", "<A ", "<br/>", "<!doctype", "<!DocType html>", "doctype",
		"<script", "<SCRIPT>", "</script", "</sCript>", "<style>", "</style>", "<Style ", "<title>", "</TITLE ", "<title/>", "<textarea>", "</textarea/", "<textarea", "script", "style>", "<scripts>", "</scripts>", "</ script>", "<p>", "<li class=\"h-entry\">"}
}

// byChance are documents of pieces taken by chance, but always the same ones.
func byChance(count, most int) []string {
	chance := rand.New(rand.NewSource(12))
	parts := pieces()
	all := make([]string, count)
	for i := range all {
		for range chance.Intn(most + 1) {
			all[i] += parts[chance.Intn(len(parts))]
		}
	}
	return all
}

// documents calls use at many.
func documents(use func(string)) {
	texts(7, use, "<", "a", "=", "\"", "/", ">")
	texts(6, use, "<a", " ", "=", "'", "b", "/", ">")
	texts(6, use, "<", "!", "-", ">", "x", "?", "/")
	texts(5, use, "<script>", "</script", "</Style", "<style/>", ">", " ", "x", "/", "&lt;", "<")
	texts(5, use, "<title >", "</TITLE", "<textarea>", "</textarea", ">", "\n", "y", "&gt", "<!--")
	texts(5, use, "<!", "doctype", "DOCTYPE", "<!doctyp", "e", ">", "--", "<")
	texts(5, use, "\r", "\n", "\x00", "<a ", ">", "\xff", "&")
	texts(2, use, pieces()...)
	for _, s := range byChance(20000, 30) {
		use(s)
	}
}

// P12.1 to P12.3: the kinds are the chapter's numbers.
func TestKinds(t *testing.T) {
	if got := [...]int{token.Start, token.End, token.Text, token.Comment, token.Doctype}; got != [...]int{1, 2, 3, 4, 5} {
		t.Error(got)
	}
}

// P12.1
func TestClean(t *testing.T) {
	for _, c := range []struct{ s, want string }{
		{"", ""},
		{"plain é\t\f \v", "plain é\t\f \v"},
		{"\r\n", "\n"},
		{"\r", "\n"},
		{"\n", "\n"},
		{"\n\r", "\n\n"},
		{"\r\r", "\n\n"},
		{"\r\r\n", "\n\n"},
		{"\r\n\n", "\n\n"},
		{"\r\n\r\n", "\n\n"},
		{"a\rb\r\nc\nd", "a\nb\nc\nd"},
		{"\r\x00\n", "\n\ufffd\n"},
		{"\x00", "\ufffd"},
		{"a\x00\x00b", "a\ufffd\ufffdb"},
		{"\xff", "\ufffd"},
		{"\xe2\x82A", "\ufffdA"},
		{"\xe2\x82\x00", "\ufffd\ufffd"},
		{"\xe2\x82\r\n\xff", "\ufffd\n\ufffd"},
		{"\xed\xa0\x80", "\ufffd\ufffd\ufffd"},
		{"\ufffd\U0010ffff", "\ufffd\U0010ffff"},
		{"&#13;&#0;&amp;", "&#13;&#0;&amp;"},
		{"<A b=C>", "<A b=C>"},
	} {
		if got := token.Clean(c.s); got != c.want {
			t.Errorf("Clean(%q) = %q, want %q", c.s, got, c.want)
		}
	}
	check := func(s string) {
		if got, want := token.Clean(s), cleaned(s); got != want {
			t.Fatalf("Clean(%q) = %q, want %q", s, got, want)
		}
	}
	texts(7, check, "\r", "\n", "\x00", "a", "\xe2", "\x82")
	for c := range 256 {
		check(string([]byte{byte(c)}))
		check("a" + string([]byte{byte(c)}) + "é")
	}
}

// P12.1
func TestNext(t *testing.T) {
	none := token.Token{}
	for _, c := range []struct {
		s    string
		want token.Token
		size int
	}{
		{"", none, 0},
		// Start tags.
		{"<a>", start("a"), 3},
		{"<P a=1 a=2>x&lt;", start("p", "a", "1"), 11},
		{"<DIV Class=H-Entry>", start("div", "class", "H-Entry"), 19},
		{"<h1>x", start("h1"), 4},
		{"<a-b:c.d>", start("a-b:c.d"), 9},
		{"<a=b>", start("a=b"), 5},
		{"<a\"'<&lt;>", start("a\"'<&lt;"), 10},
		{"<É>", text("<É>"), 4},
		{"<aÉÄ>", start("aÉÄ"), 7},
		{"<a\xff\x00>", start("a\xff\x00"), 5},
		{"<a\vb>", start("a\vb"), 5},
		{"<a\tb\nc\fd\re >", start("a", "b", "", "c", "", "d", "", "e", ""), 12},
		{"<a b>", start("a", "b", ""), 5},
		{"<a/b>", start("a", "b", ""), 5},
		{"<a b/c//d>", start("a", "b", "", "c", "", "d", ""), 10},
		{"<a b=c>", start("a", "b", "c"), 7},
		{"<a b = c>", start("a", "b", "c"), 9},
		{"<a b\n=\tc>", start("a", "b", "c"), 9},
		{"<a b=\"c d\">", start("a", "b", "c d"), 11},
		{"<a b='c d'>", start("a", "b", "c d"), 11},
		{"<a b= \"c\" d= 'e'>", start("a", "b", "c", "d", "e"), 17},
		{"<a b=\"'\" c='\"'>", start("a", "b", "'", "c", "\""), 15},
		{"<a b=\"\" c=''>", start("a", "b", "", "c", ""), 13},
		{"<a b=\">\" c='/>'>", start("a", "b", ">", "c", "/>"), 16},
		{"<a b=\"c\"d='e'f>", start("a", "b", "c", "d", "e", "f", ""), 15},
		{"<a b=c\"d'e>", start("a", "b", "c\"d'e"), 11},
		{"<a b=c=d>", start("a", "b", "c=d"), 9},
		{"<a b==>", start("a", "b", "="), 7},
		{"<a b=>", start("a", "b", ""), 6},
		{"<a b= >", start("a", "b", ""), 7},
		{"<a b= c>", start("a", "b", "c"), 8},
		{"<a =>", start("a", "=", ""), 5},
		{"<a ==>", start("a", "=", ""), 6},
		{"<a ==b>", start("a", "=", "b"), 7},
		{"<a =b>", start("a", "=b", ""), 6},
		{"<a =b=c>", start("a", "=b", "c"), 8},
		{"<a = b>", start("a", "=", "", "b", ""), 7},
		{"<a/=b>", start("a", "=b", ""), 6},
		{"<a b/=c>", start("a", "b", "", "=c", ""), 8},
		{"<a b / =c>", start("a", "b", "", "=c", ""), 10},
		{"<a \"b\">", start("a", "\"b\"", ""), 7},
		{"<a 'b=c'>", start("a", "'b", "c'"), 9},
		{"<a \">", start("a", "\"", ""), 5},
		{"<a <b>", start("a", "<b", ""), 6},
		{"<a<b>", start("a<b"), 5},
		{"<a b<c=d<e>", start("a", "b<c", "d<e"), 11},
		{"<a B=1 b=2 c=3 C=4>", start("a", "b", "1", "c", "3"), 19},
		{"<a b c b=1>", start("a", "b", "", "c", ""), 11},
		{"<a É=1 é=2>", start("a", "É", "1", "é", "2"), 13},
		// Values are decoded as attributes, names are not.
		{"<a b=&lt;&#233;>", start("a", "b", "<é"), 16},
		{"<a b=\"&quot;\" c='&apos;'>", start("a", "b", "\"", "c", "'"), 25},
		{"<a b='/?x=1&copy=2&lt;&lt'>", start("a", "b", "/?x=1&copy=2<<"), 27},
		{"<a b=x&gt;y>", start("a", "b", "x>y"), 12},
		{"<a &lt;=1>", start("a", "&lt;", "1"), 10},
		{"<a b=&#32;c>", start("a", "b", " c"), 12},
		{"<a b=\"x\r\ny\x00\xff\">", start("a", "b", "x\r\ny\x00\xff"), 14},
		// Closing itself.
		{"<a/>", self("a"), 4},
		{"<a />", self("a"), 5},
		{"<a//>", self("a"), 5},
		{"<a/ />", self("a"), 6},
		{"<a/ >", start("a"), 5},
		{"<a / >", start("a"), 6},
		{"<a b/>", self("a", "b", ""), 6},
		{"<a b />", self("a", "b", ""), 7},
		{"<a b/ >", start("a", "b", ""), 7},
		{"<a b=c/>", start("a", "b", "c/"), 8},
		{"<a b=c />", self("a", "b", "c"), 9},
		{"<a b=/>", start("a", "b", "/"), 7},
		{"<a b= />", start("a", "b", "/"), 8},
		{"<a b=//>", start("a", "b", "//"), 8},
		{"<a b=/ />", self("a", "b", "/"), 9},
		{"<a b=\"c\"/>", self("a", "b", "c"), 10},
		{"<a b='c/'>", start("a", "b", "c/"), 10},
		{"<a b='c/'/>", self("a", "b", "c/"), 11},
		{"<a b=\"/\" >", start("a", "b", "/"), 10},
		{"<a =/>", self("a", "=", ""), 6},
		{"<br/>x", self("br"), 5},
		{"<script/>x", self("script"), 9},
		// End tags.
		{"</a>", end("a"), 4},
		{"</A>x", end("a"), 4},
		{"</a >", end("a"), 5},
		{"</a/>", end("a"), 5},
		{"</a b=c d>", end("a"), 10},
		{"</a b=\">\">x", end("a"), 10},
		{"</a b='/>' />x", end("a"), 13},
		{"</script>", end("script"), 9},
		// Where the document ends within a tag.
		{"<a", none, 2},
		{"<a ", none, 3},
		{"<a/", none, 3},
		{"<a b", none, 4},
		{"<a b ", none, 5},
		{"<a b=", none, 5},
		{"<a b= ", none, 6},
		{"<a b=c", none, 6},
		{"<a b=c ", none, 7},
		{"<a b=\"", none, 6},
		{"<a b=\"c", none, 7},
		{"<a b=\"c>d</a>", none, 13},
		{"<a b='c\">x", none, 10},
		{"<a b=\"c\"", none, 8},
		{"<abc <b", none, 7},
		{"</a", none, 3},
		{"</a b='>", none, 8},
		{"<script", none, 7},
		// Comments.
		{"<!--a-->b", comment("a"), 8},
		{"<!---->", comment(""), 7},
		{"<!-- a -- b --!> c -->", comment(" a -- b --!> c "), 22},
		{"<!-->-->", comment(">"), 8},
		{"<!-->x", comment(">x"), 6},
		{"<!--->x-->", comment("->x"), 10},
		{"<!----->", comment("-"), 8},
		{"<!--a--", comment("a--"), 7},
		{"<!--", comment(""), 4},
		{"<!--a", comment("a"), 5},
		{"<!--&lt;\r\n\x00\xff<a>-->", comment("&lt;\r\n\x00\xff<a>"), 18},
		{"<!-a->b", comment("-a-"), 6},
		{"<!- - a>", comment("- - a"), 8},
		{"<!>x", comment(""), 3},
		{"<!a>", comment("a"), 4},
		{"<!", comment(""), 2},
		{"<!a", comment("a"), 3},
		{"<!ELEMENT br EMPTY>", comment("ELEMENT br EMPTY"), 19},
		{"<![CDATA[a>b]]>", comment("[CDATA[a"), 11},
		{"<?xml a=\">\"?>", comment("xml a=\""), 10},
		{"<?php x ?>", comment("php x ?"), 10},
		{"<?>", comment(""), 3},
		{"<?", comment(""), 2},
		{"<?doctype>", comment("doctype"), 10},
		{"</>x", comment(""), 3},
		{"</", comment(""), 2},
		{"</ a>", comment(" a"), 5},
		{"</1>", comment("1"), 4},
		{"</é", comment("é"), 4},
		{"</<a>", comment("<a"), 5},
		{"<//a>", comment("/a"), 5},
		// Doctypes.
		{"<!doctype html>x", doctype(), 15},
		{"<!DOCTYPE html>", doctype(), 15},
		{"<!DocType>", doctype(), 10},
		{"<!doctypehtml>", doctype(), 14},
		{"<!doctype", doctype(), 9},
		{"<!doctype html", doctype(), 14},
		{"<!doctype '>'>", doctype(), 12},
		{"<!doctyp>", comment("doctyp"), 9},
		{"<!doctyp", comment("doctyp"), 8},
		{"<! doctype>", comment(" doctype"), 11},
		{"<!docty>pe", comment("docty"), 8},
		{"</!doctype>", comment("!doctype"), 11},
		// Texts.
		{"a", text("a"), 1},
		{" \n", text(" \n"), 2},
		{"a<b", text("a"), 1},
		{"a</b", text("a"), 1},
		{"a</", text("a"), 1},
		{"a<!", text("a"), 1},
		{"a<?", text("a"), 1},
		{"<", text("<"), 1},
		{"<<", text("<<"), 2},
		{"<<a>", text("<"), 1},
		{"<1>", text("<1>"), 3},
		{"< a>", text("< a>"), 4},
		{"<>", text("<>"), 2},
		{"<\x00", text("<\x00"), 2},
		{"<é", text("<é"), 3},
		{"<=a", text("<=a"), 3},
		{"a < b > c", text("a < b > c"), 9},
		{"a<", text("a<"), 2},
		{"a<@<[<`<{<", text("a<@<[<`<{<"), 10},
		{">", text(">"), 1},
		{"-->", text("-->"), 3},
		{"x&lt;", text("x<"), 5},
		{"&lt;b>", text("<b>"), 6},
		{"&lt<b>", text("<"), 3},
		{"&amp;lt;", text("&lt;"), 8},
		{"&copy=1&ltx", text("\u00a9=1<x"), 11},
		{"&#60;!--", text("<!--"), 8},
		{"\r\n\x00\xff", text("\r\n\x00\xff"), 4},
	} {
		got, size := token.Next(c.s)
		if !same(got, c.want) || size != c.size {
			t.Errorf("Next(%q) = %+v, %d, want %+v, %d", c.s, got, size, c.want, c.size)
		}
	}
}

// P12.1, P12.2: each byte behind a <, a </ and in a name.
func TestEachByte(t *testing.T) {
	for c := range 256 {
		one := string([]byte{byte(c)})
		letter := 'a' <= c && c <= 'z' || 'A' <= c && c <= 'Z'
		got, size := token.Next("<" + one + ">")
		kind := token.Text
		switch {
		case letter:
			kind = token.Start
		case c == '/', c == '!', c == '?':
			kind = token.Comment
		}
		if got.Kind != kind || size != 3 {
			t.Errorf("Next(%q) = %+v, %d", "<"+one+">", got, size)
		}
		if got, _ := token.Next("</" + one + ">"); got.Kind == token.End != letter || got.Kind == token.Comment == letter {
			t.Errorf("Next(%q) = %+v", "</"+one+">", got)
		}
		ends := strings.Contains(blanks+"/>", one)
		if got, _ := token.Next("<a" + one + "b>"); got.Name == "a" != ends || !ends && got.Name != lower("a"+one+"b") {
			t.Errorf("Next(%q) = %+v", "<a"+one+"b>", got)
		}
		for _, s := range []string{"<a " + one + ">", "<a b" + one + "c>", "<a b=" + one + ">", "<a b=c" + one + "d>", "<a b='" + one + "'>", "<a b=\"" + one + "\">", "<a b=c" + one + ">", "<a b" + one + "=c>", "<a b='c'" + one + ">"} {
			got, size := token.Next(s)
			if want, wantSize := worded(s); !same(got, want) || size != wantSize {
				t.Errorf("Next(%q) = %+v, %d, want %+v, %d", s, got, size, want, wantSize)
			}
		}
		for name := range ownForms {
			s := "<" + name + "></" + name + one + "x</" + name + ">"
			got, why := token.All(s)
			if want, _ := wordedAll(cleaned(s)); !sameAll(got, want) || why != api.OK {
				t.Errorf("All(%q) = %+v, %v, want %+v", s, got, why, want)
			}
		}
	}
}

// P12.1, P12.5: of attributes the first 64 names count.
func TestManyAttrs(t *testing.T) {
	for _, count := range []int{63, 64, 65, 200} {
		s := "<a"
		for i := range count {
			// Each name once more, of other letters: it is not counted.
			s += fmt.Sprintf(" n%d=v%d N%d=other", i, i, i)
		}
		got, size := token.Next(s + " />")
		if len(got.Attrs) != min(count, 64) || !got.Self || size != len(s)+3 {
			t.Fatalf("%d attributes of %d, %v, %d", len(got.Attrs), count, got.Self, size)
		}
		for i, a := range got.Attrs {
			if a.Name != fmt.Sprint("n", i) || a.Value != fmt.Sprint("v", i) {
				t.Errorf("%d: %v", i, a)
			}
		}
		if again, _ := token.Next(token.Tag(got)); !same(again, got) {
			t.Errorf("%+v, want %+v", again, got)
		}
	}
}

// P12.2
func TestAll(t *testing.T) {
	for _, c := range []struct {
		s    string
		want []token.Token
	}{
		{"", nil},
		{"<P a=1 a=2>x&lt;", []token.Token{start("p", "a", "1"), text("x<")}},
		{"x", []token.Token{text("x")}},
		{"<li>a<li>b", []token.Token{start("li"), text("a"), start("li"), text("b")}},
		{"<!doctype html><!--c--><p>a</p>", []token.Token{doctype(), comment("c"), start("p"), text("a"), end("p")}},
		{"a<!--b-->c", []token.Token{text("a"), comment("b"), text("c")}},
		{"a<b", []token.Token{text("a")}},
		{"a<b c='d>e</b>f", []token.Token{text("a")}},
		{"<p></p", []token.Token{start("p")}},
		{"a<b<c>d", []token.Token{text("a"), start("b<c"), text("d")}},
		{"a<!b", []token.Token{text("a"), comment("b")}},
		{"a</", []token.Token{text("a"), comment("")}},
		{"a<", []token.Token{text("a<")}},
		// What was cleaned.
		{"a\r\nb\rc\x00\xff", []token.Token{text("a\nb\nc\ufffd\ufffd")}},
		{"<a\rb='\r\n\x00'>", []token.Token{start("a", "b", "\n\ufffd")}},
		{"<a\x00>", []token.Token{start("a\ufffd")}},
		{"<\x00>", []token.Token{text("<\ufffd>")}},
		{"<!--\r\xff-->", []token.Token{comment("\n\ufffd")}},
		{"&#13;&#0;", []token.Token{text("\r\ufffd")}},
		{"<a b='&#13;&#10;'>", []token.Token{start("a", "b", "\r\n")}},
		// Texts that just their end tag ends.
		{"<script>a<b>&lt;</script>c&lt;", []token.Token{start("script"), text("a<b>&lt;"), end("script"), text("c<")}},
		{"<style>a<b>&lt;</style>c&lt;", []token.Token{start("style"), text("a<b>&lt;"), end("style"), text("c<")}},
		{"<title>a<b>&lt;</title>c&lt;", []token.Token{start("title"), text("a<b><"), end("title"), text("c<")}},
		{"<textarea>a<b>&lt;&copy=</textarea>c&lt;", []token.Token{start("textarea"), text("a<b><\u00a9="), end("textarea"), text("c<")}},
		{"<SCRIPT a=b>x</sCRIPT y>", []token.Token{start("script", "a", "b"), text("x"), end("script")}},
		{"<script/>a<b>", []token.Token{self("script"), text("a<b>")}},
		{"<title/>a<b></title>", []token.Token{self("title"), text("a<b>"), end("title")}},
		{"<script></script>", []token.Token{start("script"), end("script")}},
		{"<script></script><b>", []token.Token{start("script"), end("script"), start("b")}},
		{"<script>", []token.Token{start("script")}},
		{"<script>a", []token.Token{start("script"), text("a")}},
		{"<script></script", []token.Token{start("script")}},
		{"<script>a</script", []token.Token{start("script"), text("a")}},
		{"<script>a</script ", []token.Token{start("script"), text("a")}},
		{"<script>a</script\n>b", []token.Token{start("script"), text("a"), end("script"), text("b")}},
		{"<script>a</script/>b", []token.Token{start("script"), text("a"), end("script"), text("b")}},
		{"<script>a</script/b='>'>c", []token.Token{start("script"), text("a"), end("script"), text("c")}},
		{"<script>a</scripts>b</script>", []token.Token{start("script"), text("a</scripts>b"), end("script")}},
		{"<script></scrip></script>", []token.Token{start("script"), text("</scrip>"), end("script")}},
		{"<script></ script></script>", []token.Token{start("script"), text("</ script>"), end("script")}},
		{"<script>< /script></script>", []token.Token{start("script"), text("< /script>"), end("script")}},
		{"<script></</script>", []token.Token{start("script"), text("</"), end("script")}},
		{"<script><</script>", []token.Token{start("script"), text("<"), end("script")}},
		{"<script><!--</script>-->", []token.Token{start("script"), text("<!--"), end("script"), text("-->")}},
		{"<script></style></script>", []token.Token{start("script"), text("</style>"), end("script")}},
		{"<title></script></textarea></title>", []token.Token{start("title"), text("</script></textarea>"), end("title")}},
		{"<script><script></script></script>", []token.Token{start("script"), text("<script>"), end("script"), end("script")}},
		{"<script>\x00\r</script>", []token.Token{start("script"), text("\ufffd\n"), end("script")}},
		{"<style></\u017ftyle></style>", []token.Token{start("style"), text("</\u017ftyle>"), end("style")}},
		{"<\u017ftyle><b>", []token.Token{text("<\u017ftyle>"), start("b")}},
		{"<scripts><b>", []token.Token{start("scripts"), start("b")}},
		{"<scrip><b>", []token.Token{start("scrip"), start("b")}},
		{"<script<b>c<d>", []token.Token{start("script<b"), text("c"), start("d")}},
		{"</script><b>", []token.Token{end("script"), start("b")}},
		{"<!--<script>--><b>", []token.Token{comment("<script>"), start("b")}},
		{"<p title=script><b>", []token.Token{start("p", "title", "script"), start("b")}},
		{"<title>a</title><b>c<style>d<e></style>", []token.Token{start("title"), text("a"), end("title"), start("b"), text("c"), start("style"), text("d<e>"), end("style")}},
		{"<pre>\na<b></pre><xmp><b>", []token.Token{start("pre"), text("\na"), start("b"), end("pre"), start("xmp"), start("b")}},
		// Whether such a tag begins is not told within one that the document's end cuts.
		{"<script a='>x</script>", nil},
	} {
		got, why := token.All(c.s)
		if !sameAll(got, c.want) || why != api.OK {
			t.Errorf("All(%q) = %+v, %v, want %+v", c.s, got, why, c.want)
		}
	}
}

// P12.2
func TestMany(t *testing.T) {
	for _, c := range []struct {
		name  string
		s     string
		count int // below 0: ErrMany
	}{
		{"most bytes", strings.Repeat("a", 1<<16), 1},
		{"a byte too many", strings.Repeat("a", 1<<16+1), -1},
		{"bytes that grow when they are cleaned", strings.Repeat("\xff", 1<<16), 1},
		{"more bytes, but fewer when they are cleaned", strings.Repeat("\r\n", 1<<15) + "\n", -1},
		{"a tag cut off, too long", "<a" + strings.Repeat(" ", 1<<16), -1},
		{"a tag cut off", "<a" + strings.Repeat(" ", 1<<16-2), 0},
		{"most tokens", strings.Repeat("<a>", 4*4096), 4 * 4096},
		{"a token too many", strings.Repeat("<a>", 4*4096+1), -1},
		{"a text too many", strings.Repeat("<a>", 4*4096) + "b", -1},
		{"a comment too many", strings.Repeat("</>", 4*4096) + "<!", -1},
		{"most tokens, and a tag cut off", strings.Repeat("<a>", 4*4096) + "<b", 4 * 4096},
		{"a text and most", "b" + strings.Repeat("<a>", 4*4096), -1},
		{"texts and tags", strings.Repeat("<a>b", 2*4096), 4 * 4096},
		{"too many texts and tags", strings.Repeat("<a>b", 2*4096) + "<a>", -1},
		{"far too many", strings.Repeat("<a>b", 1<<14), -1},
	} {
		got, why := token.All(c.s)
		if c.count < 0 {
			if got != nil || why != api.ErrMany {
				t.Errorf("%s: %d tokens, %v", c.name, len(got), why)
			}
			continue
		}
		if len(got) != c.count || why != api.OK {
			t.Errorf("%s: %d tokens, %v", c.name, len(got), why)
		}
	}
	if got, _ := token.All(strings.Repeat("\xff", 1<<16)); len(got) != 1 || got[0].Text != strings.Repeat("\ufffd", 1<<16) {
		t.Error("bytes that grow are cut")
	}
}

// P12.1, P12.2
func TestAsWorded(t *testing.T) {
	documents(func(s string) {
		got, size := token.Next(s)
		if want, wantSize := worded(s); !same(got, want) || size != wantSize {
			t.Fatalf("Next(%q) = %+v, %d, want %+v, %d", s, got, size, want, wantSize)
		}
		all, why := token.All(s)
		if want, _ := wordedAll(cleaned(s)); !sameAll(all, want) || why != api.OK {
			t.Fatalf("All(%q) = %+v, %v, want %+v", s, all, why, want)
		}
	})
}

// P12.3
func TestTag(t *testing.T) {
	for _, c := range []struct {
		t    token.Token
		want string
	}{
		{start("a"), "<a>"},
		{self("a"), "<a/>"},
		{start("a", "b", "c"), `<a b="c">`},
		{start("a", "b", "", "c", "d e"), `<a b="" c="d e">`},
		{self("a", "b", "c/"), `<a b="c/"/>`},
		{start("a", "b", "\"'<>&\u00a0\r\n"), "<a b=\"&quot;'<>&amp;&nbsp;&#13;\n\">"},
		{start("a", "b", "1", "b", "2"), `<a b="1" b="2">`},
		{start("A&", "B&", "&lt;"), `<A& B&="&amp;lt;">`},
		{start("", "", ""), `< ="">`},
		{end("a"), "</a>"},
		{end(""), "</>"},
		{token.Token{Kind: token.End, Name: "a", Attrs: start("", "b", "c").Attrs, Self: true, Text: "d"}, "</a>"},
		{token.Token{Kind: token.Start, Name: "a", Text: "d"}, "<a>"},
		{text("x<"), "x&lt;"},
		{text("a \"<&>\" '\u00a0\r\n\xff"), "a \"&lt;&amp;&gt;\" '&nbsp;&#13;\n\xff"},
		{text(""), ""},
		{token.Token{Kind: token.Text, Name: "a", Attrs: start("", "b", "c").Attrs, Self: true, Text: "d"}, "d"},
		{comment("a"), ""},
		{doctype(), ""},
		{token.Token{}, ""},
		{token.Token{Kind: -1, Name: "a", Text: "b"}, ""},
		{token.Token{Kind: 6, Name: "a", Text: "b"}, ""},
	} {
		if got := token.Tag(c.t); got != c.want {
			t.Errorf("Tag(%+v) = %q, want %q", c.t, got, c.want)
		}
	}
	many := token.Token{Kind: token.Start, Name: "a"}
	for i := range 100 {
		many.Attrs = append(many.Attrs, api.Attr{Name: fmt.Sprint("n", i)})
	}
	if got := strings.Count(token.Tag(many), `=""`); got != 100 {
		t.Errorf("%d attributes of 100", got)
	}
}

// P12.3
func TestSame(t *testing.T) {
	all := []token.Token{
		{}, start("a"), self("a"), start("b"), start("a", "b", "c"), start("a", "b", "d"), start("a", "d", "c"), start("a", "b", "c", "b", "c"), start("a", "b", "c", "d", "e"), start("a", "d", "e", "b", "c"), start("A"),
		end("a"), end("b"), text("a"), text("b"), text("A"), text(""), comment("a"), comment("b"), comment(""), doctype(), {Kind: -1}, {Kind: 6},
		{Kind: token.Start, Name: "a", Text: "b"}, {Kind: token.Text, Name: "a", Text: "a"}, {Kind: token.Text, Self: true, Text: "a"}, {Kind: token.Doctype, Text: "a"}, {Kind: token.End, Name: "a", Attrs: []api.Attr{{}}},
	}
	for i, a := range all {
		for j, b := range all {
			if got := token.Same(a, b); got != (i == j) {
				t.Errorf("Same(%+v, %+v) = %v", a, b, got)
			}
		}
		// The same, but of other memory.
		b := a
		b.Attrs = append([]api.Attr{}, a.Attrs...)
		if !token.Same(a, b) || !token.Same(b, a) {
			t.Errorf("Same(%+v, %+v) = false", a, b)
		}
	}
}

// P12.4
func TestWhole(t *testing.T) {
	documents(func(s string) {
		// Next by Next nothing is left out, and each takes something.
		count := 0
		for left := s; left != ""; {
			got, size := token.Next(left)
			if size < 1 || size > len(left) || got.Kind == 0 && (size != len(left) || !same(got, token.Token{})) {
				t.Fatalf("Next(%q) = %+v, %d", left, got, size)
			}
			left = left[size:]
			count++
		}
		if count > len(s) {
			t.Fatalf("%d tokens of %q", count, s)
		}
	})
	// What tokens have for bytes, one behind the other, is the document: each cut between two leaves the tokens ahead as they are.
	for _, s := range byChance(2000, 20) {
		s = token.Clean(s)
		all, _ := token.All(s)
		_, sizes := wordedAll(s)
		at := 0
		for i, size := range sizes {
			if part, _ := token.All(s[:at]); !sameAll(part, all[:i]) {
				t.Fatalf("All(%q) = %+v, a beginning of %+v", s[:at], part, all)
			}
			at += size
		}
		if at != len(s) || len(all) != len(sizes) && len(all) != len(sizes)-1 {
			t.Fatalf("%d bytes, %d parts, %d tokens of %q", at, len(sizes), len(all), s)
		}
	}
}

// P12.5
func TestReadAgain(t *testing.T) {
	documents(func(s string) {
		all, _ := token.All(s)
		for _, a := range all {
			if a.Kind == token.Comment || a.Kind == token.Doctype {
				continue
			}
			tag := token.Tag(a)
			if got, size := token.Next(tag); !same(got, a) || size != len(tag) {
				t.Fatalf("Next(%q) = %+v, %d, want %+v", tag, got, size, a)
			}
			// It has no byte that is cleaned.
			if got, why := token.All(tag); len(got) != 1 || !same(got[0], a) || why != api.OK {
				t.Fatalf("All(%q) = %+v, %v, want %+v", tag, got, why, a)
			}
		}
	})
}

// P12.6
func TestNotEmpty(t *testing.T) {
	bad := func(name string) bool { return name == "" || strings.ContainsAny(name, blanks+"/>") }
	documents(func(s string) {
		all, _ := token.All(s)
		next, _ := token.Next(s)
		for _, a := range append(all, next) {
			tag := a.Kind == token.Start || a.Kind == token.End
			if tag && bad(a.Name) || !tag && a.Name != "" || a.Kind == token.Text && a.Text == "" {
				t.Fatalf("%+v of %q", a, s)
			}
			for _, attr := range a.Attrs {
				if a.Kind != token.Start || bad(attr.Name) || strings.Contains(attr.Name[1:], "=") {
					t.Fatalf("%+v of %q", a, s)
				}
			}
		}
	})
}

// R4: what is answered is the caller's, and what is handed in stays.
func TestOwn(t *testing.T) {
	const s = "<a b=1 c=2 d=3><a b=1 c=2 d=3><e f=4>"
	all, _ := token.All(s)
	want, _ := token.All(s)
	first := append(all[0].Attrs, api.Attr{Name: "x"}, api.Attr{Name: "y"})
	for i := range first {
		first[i] = api.Attr{Name: "z"}
	}
	if !sameAll(all[1:], want[1:]) {
		t.Errorf("%+v, want %+v", all[1:], want[1:])
	}
	if again, _ := token.All(s); !sameAll(again, want) {
		t.Errorf("%+v, want %+v", again, want)
	}
	room := make([]api.Attr, 1, 4)
	room[0] = api.Attr{Name: "b", Value: "&"}
	a := token.Token{Kind: token.Start, Name: "a", Attrs: room}
	token.Tag(a)
	token.Same(a, a)
	if room = room[:4]; room[0] != (api.Attr{Name: "b", Value: "&"}) || room[1] != (api.Attr{}) {
		t.Errorf("%q", room)
	}
}

// R1: long documents come to an end, however they are made.
func TestLong(t *testing.T) {
	for _, part := range []string{"<", "<a", "</", "<!", "<!--", "<?", "<script>", "<script>x", "</script", "<a b=", " a=\"", "<a ", "/", "=", "&", "\x00", "\r", "<title></titl"} {
		for _, ahead := range []string{"", "<a ", "<script>", "<title>", "<!--", "</a "} {
			s := ahead + strings.Repeat(part, (api.MaxDoc-len(ahead))/len(part))
			token.All(s)
			if _, size := token.Next(s); size < 1 || size > len(s) {
				t.Errorf("Next of %q, and %q again and again: %d bytes", ahead, part, size)
			}
		}
	}
}
