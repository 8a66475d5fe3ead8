package value_test

import (
	"math"
	"math/rand"
	"slices"
	"strings"
	"testing"
	"time"

	"cringle/api"
	"cringle/date"
	"cringle/tree"
	"cringle/url"
	"cringle/value"
)

func parse(t *testing.T, s string) api.Doc {
	t.Helper()
	d, why := tree.Parse(s)
	if why != api.OK {
		t.Fatalf("Parse(%.80q): %v", s, why)
	}
	return d
}

func at(t *testing.T, s string) api.URL {
	t.Helper()
	u, why := url.Parse(s)
	if why != api.OK {
		t.Fatalf("Parse(%.80q): %v", s, why)
	}
	return u
}

// made is a tree of nodes whose Kids are found by their Ups.
func made(nodes ...api.Node) api.Doc {
	d := api.Doc{Nodes: append([]api.Node{{Kind: api.Root, Up: -1}}, nodes...)}
	for at, n := range d.Nodes {
		if n.Up >= 0 {
			d.Nodes[n.Up].Kids = append(d.Nodes[n.Up].Kids, at)
		}
	}
	return d
}

func element(up int, name string, pairs ...string) api.Node {
	n := api.Node{Kind: api.Element, Name: name, Up: up}
	for i := 0; i < len(pairs); i += 2 {
		n.Attrs = append(n.Attrs, api.Attr{Name: pairs[i], Value: pairs[i+1]})
	}
	return n
}

func text(up int, s string) api.Node { return api.Node{Kind: api.Text, Text: s, Up: up} }

// copied shares nothing with its tree.
func copied(d api.Doc) api.Doc {
	nodes := slices.Clone(d.Nodes)
	for i := range nodes {
		nodes[i].Attrs = slices.Clone(nodes[i].Attrs)
		nodes[i].Kids = slices.Clone(nodes[i].Kids)
	}
	return api.Doc{Nodes: nodes}
}

// lists calls use at all lists of at most most of the parts.
func lists(most int, use func(...string), parts ...string) {
	var on func([]string, int)
	on = func(list []string, left int) {
		use(list...)
		if left == 0 {
			return
		}
		for _, part := range parts {
			on(append(list[:len(list):len(list)], part), left-1)
		}
	}
	on(nil, most)
}

// P15.1, P15.4
func TestParts(t *testing.T) {
	for _, c := range []struct {
		s    string
		want []int
	}{
		{"<p></p>", nil},
		{"<p>x<b>y</b></p>", nil},
		{"<p><b class=value></b></p>", []int{2}},
		{"<p><b class=value-title></b><i class='a value b'></i></p>", []int{2, 3}},
		{"<p><b class='value value-title'></b></p>", []int{2}},
		{"<p><u><b class=value></b></u><i><u><b class=value></b></u></i></p>", []int{3, 6}},
		// Itself it is none, and what its own classes are is nothing.
		{"<p class=value></p>", nil},
		{"<p class='value h-a p-a'><b class=value></b></p>", []int{2}},
		// Not those in another one, however deep.
		{"<p><b class=value><i class=value></i></b><i class=value></i></p>", []int{2, 4}},
		{"<p><b class=value><u><i class=value-title></i></u></b></p>", []int{2}},
		{"<p><b class=value-title><i class=value><u class=value></u></i></b></p>", []int{2}},
		// Nor those in an item or a property, however deep; which may be parts themselves.
		{"<p><b class=h-a><i class=value></i></b><i class=value></i></p>", []int{4}},
		{"<p><b class='x p-a'><i><u class=value></u></i></b></p>", nil},
		{"<p><b class=u-a><i class=value></i></b><b class=dt-a><i class=value></i></b><b class=e-a><i class=value></i></b></p>", nil},
		{"<p><b class='value p-a'><i class=value></i></b></p>", []int{2}},
		{"<p><b class='h- p- u- dt- e-'><i class=value></i></b></p>", []int{3}},
		{"<p><b class='h p H-a P-a xh-a d-a t-a dt hp-a'><i class=value></i></b></p>", []int{3}},
		{"<p><b class='h--'><i class=value></i></b><b class='e-1'><i class=value></i></b><b class='p-é'><i class=value></i></b></p>", nil},
		// Classes are words, letter by letter.
		{"<p><b class=Value></b><b class=values></b><b class=value-titl></b><b class='value-title-'></b><b class=value-></b><b id=value></b></p>", nil},
		{"<p><b class='\tvalue\n'></b><b CLASS=value></b></p>", []int{2, 3}},
	} {
		d := parse(t, c.s)
		if got := value.Parts(d, 1); !slices.Equal(got, c.want) {
			t.Errorf("Parts of %q are %v, want %v", c.s, got, c.want)
		}
	}
	// Rising by place, though what lies in a node need not stand together.
	d := made(element(0, "p"), element(1, "b"), element(1, "b", "class", "value"), element(2, "i", "class", "value"), element(1, "i", "class", "value"))
	if got := value.Parts(d, 1); !slices.Equal(got, []int{3, 4, 5}) {
		t.Errorf("%v", got)
	}
	// Only the first class counts.
	d = made(element(0, "p"), element(1, "b", "class", "a", "class", "value"), element(1, "b", "Class", "value"), element(1, "b", "class", "value", "class", "a"))
	if got := value.Parts(d, 1); !slices.Equal(got, []int{4}) {
		t.Errorf("%v", got)
	}
}

// P15.1
func TestText(t *testing.T) {
	for _, c := range []struct{ s, want string }{
		{"<p> x <b>y</b> </p>", "x y"},
		{"<p>a<br>b<img src=c></p>", "a\nb c"},
		{"<p></p>", ""},
		// Without parts: its own attribute, as it is, if it has it.
		{"<abbr title=' x '>y</abbr>", " x "},
		{"<link title=x>", "x"},
		{"<abbr title=''>y</abbr>", ""},
		{"<abbr title>y</abbr>", ""},
		{"<abbr alt=x value=x>y</abbr>", "y"},
		{"<data value=' x '>y</data>", " x "},
		{"<input value=x>", "x"},
		{"<input title=x alt=x>", ""},
		{"<data>y</data>", "y"},
		{"<img alt=' x ' src=y>", " x "},
		{"<area alt=x href=y>", "x"},
		{"<img src=y title=x>", ""},
		{"<p title=x value=x alt=x>y</p>", "y"},
		{"<a title=x href=x>y</a>", "y"},
		{"<time datetime=x>y</time>", "y"},
		{"<ins datetime=x title=x>y</ins>", "y"},
		// Parts go ahead of it all.
		{"<p>x<b class=value>y</b>z</p>", "y"},
		{"<abbr title=x>x<b class=value>y</b></abbr>", "y"},
		{"<data value=x>x<b class=value></b></data>", ""},
		{"<p><b class=value> a </b> <i class=value>b</i>c<u class=value>d <img src=e></u></p>", "abd  e"},
		// What a part tells: the title of a value-title, whatever it is.
		{"<p><b class=value-title title=' x '>y</b></p>", " x "},
		{"<p><b class=value-title>y</b><b class=value>z</b></p>", "z"},
		{"<p><data class=value-title value=x>y</data></p>", ""},
		{"<p><img class='value-title value' alt=x title=y></p>", "y"},
		// Others: what their names say, if they have it.
		{"<p><b class=value title=x alt=x value=x>y</b></p>", "y"},
		{"<p><img class=value alt=' x ' src=z>y</p>", " x "},
		{"<p><img class=value src=z title=z>y</p>", ""},
		{"<p><area class=value alt=x>y</p>", "x"},
		{"<p><data class=value value=x title=z>y</data></p>", "x"},
		{"<p><data class=value title=z>y</data></p>", "y"},
		{"<p><data class=value value>y</data></p>", ""},
		{"<p><abbr class=value title=x>y</abbr></p>", "x"},
		{"<p><abbr class=value value=x>y</abbr></p>", "y"},
		{"<p><input class=value value=x title=z></p>", ""},
		{"<p><link class=value title=x>y</p>", ""},
		// As a text no datetime counts.
		{"<p><time class=value datetime=x>y</time><ins class=value datetime=x>z</ins></p>", "yz"},
	} {
		if got := value.Text(parse(t, c.s), 1); got != c.want {
			t.Errorf("Text of %q is %q, want %q", c.s, got, c.want)
		}
	}
}

// P15.2
func TestDate(t *testing.T) {
	for _, c := range []struct{ s, want string }{
		{"<p> x </p>", "x"},
		{"<p> 2020-02-29\n7:30pm </p>", "2020-02-29\n7:30pm"},
		{"<p></p>", ""},
		// Without parts: its own attribute, trimmed, whatever it is.
		{"<time datetime=' 2020-02-29\n'>y</time>", "2020-02-29"},
		{"<ins datetime=x>y</ins>", "x"},
		{"<del datetime=x>y</del>", "x"},
		{"<time datetime=''>y</time>", ""},
		{"<time datetime=' '>y</time>", ""},
		{"<time title=x value=x>y</time>", "y"},
		{"<abbr title=' x '>y</abbr>", "x"},
		{"<abbr datetime=x>y</abbr>", "y"},
		{"<link title=x>", ""},
		{"<data value=' x\t'>y</data>", "x"},
		{"<input value=x>", "x"},
		{"<data datetime=x title=x>y</data>", "y"},
		{"<img alt=x>", ""},
		{"<p datetime=x title=x value=x alt=x>y</p>", "y"},
		{"<time datetime='&nbsp;x'>y</time>", "\u00a0x"},
		// Parts are put together.
		{"<p>x<b class=value>2020-02-29</b>y<i class=value> 7:30pm </i>", "2020-02-29 19:30:00"},
		{"<p><b class=value>07:30</b><i class=value>2020-060</i>", "2020-02-29 07:30:00"},
		{"<p><time class=value datetime='2020-02-29'>x</time><time class=value datetime=' 19:30:00 -08:00 '>x</time>", "2020-02-29 19:30:00-08:00"},
		{"<p><ins class=value datetime='2020-02-29'>x</ins><del class=value datetime='19:30'>x</del>", "2020-02-29 19:30:00"},
		{"<p><time class=value>2020-02-29</time>", "2020-02-29"},
		{"<p><time class=value title=2020-02-28>2020-02-29</time>", "2020-02-29"},
		{"<p><abbr class=value title=2020-02-29 datetime=x>x</abbr><data class=value value=7am>x</data><img class=value alt='z'>", "2020-02-29 07:00:00Z"},
		{"<p><b class=value-title title=2020-02-29T10:00>x</b>", "2020-02-29T10:00"},
		{"<p><time class=value-title title=2020-02-29 datetime=2020-02-28>x</time>", "2020-02-29"},
		{"<time datetime=2020-02-28><b class=value>2020-02-29</b></time>", "2020-02-29"},
		{"<p><b class=value>x</b><b class=value>2020-02-29</b>", "2020-02-29"},
		{"<p><b class=value>2020<i class=value>2020-02-28</i>-02-29</b>", "20202020-02-28-02-29"},
		// Parts of which nothing comes: its own.
		{"<p>x <b class=value>7pm</b></p>", "x 7pm"},
		{"<p> <b class=value>x</b> y </p>", "x y"},
		{"<time datetime=z><b class=value>x</b></time>", "z"},
		{"<abbr title=' 2020 '><b class=value>x</b></abbr>", "2020"},
		{"<p>2020-02-29<b class=value-title>x</b></p>", "2020-02-29x"},
	} {
		if got := value.Date(parse(t, c.s), 1); got != c.want {
			t.Errorf("Date of %q is %q, want %q", c.s, got, c.want)
		}
	}
}

// P15.2, P15.5
func TestPut(t *testing.T) {
	for _, c := range []struct {
		want   string
		pieces []string
	}{
		{"", nil},
		{"", []string{"", " ", "x", "2020", "2020-02-30", "24:00", "13pm", "+15:00", "2021-02-29"}},
		{"2020-02-29 19:30:00-0800", []string{"2020-02-29", "7:30pm", "-0800"}},
		// A day alone.
		{"2020-02-29", []string{"2020-02-29"}},
		{"2020-02-29", []string{"\t2020-060\n"}},
		{"0001-01-01", []string{"0001-001"}},
		{"9999-12-31", []string{"9999-365"}},
		{"2020-02-29", []string{"2020-02-29", "2021-01-01", "2020-001"}},
		{"2020-02-29", []string{"x", "2020-02-29", "x"}},
		{"2020-02-29", []string{"-0800", "2020-02-29", "Z"}},
		{"", []string{"7:30pm"}},
		{"", []string{"-0800"}},
		{"", []string{"7:30pm", "-0800", "10:00Z"}},
		// A day and a time, in whatever order.
		{"2020-02-29 10:00:00", []string{"2020-02-29", "10:00"}},
		{"2020-02-29 10:00:00", []string{"10:00", "2020-02-29"}},
		{"2020-02-29 10:11:12", []string{"2020-060", "10:11:12.345"}},
		{"2020-02-29 23:59:59", []string{"2020-02-29", "23:59:60"}},
		{"2020-02-29 00:00:00", []string{"2020-02-29", "12am"}},
		{"2020-02-29 12:00:00", []string{"2020-02-29", "12 pm", "12p.m."}},
		{"2020-02-29 19:30:15", []string{"2020-02-29", "7:30:15 P.M.", "07:30:15P.M."}},
		{"2020-02-29 10:00:00", []string{"2020-02-29", "10:00", "11:00", "1pm"}},
		{"9999-12-31 23:59:59", []string{"9999-12-31", "23:59:59"}},
		// Zones as they stood, but Z of z; behind a time, or alone.
		{"2020-02-29 10:00:00Z", []string{"2020-02-29", "10:00", "z"}},
		{"2020-02-29 10:00:00Z", []string{"Z", "2020-02-29", "10:00"}},
		{"2020-02-29 10:00:00Z", []string{"2020-02-29", "10:00z"}},
		{"2020-02-29 10:00:00", []string{"2020-02-29", "10:00", "+1", "+080", "+15", "+08:60", "z+08", " x "}},
		{"2020-02-29 10:00:00-08", []string{"2020-02-29", "10:00", "-08"}},
		{"2020-02-29 10:00:00-08:00", []string{"2020-02-29", "10:00 -08:00"}},
		{"2020-02-29 19:30:00-0800", []string{"2020-02-29", "7:30pm  -0800"}},
		{"2020-02-29 19:00:00+0130", []string{"7pm+0130", "2020-02-29"}},
		{"2020-02-29 10:00:00-0800", []string{"2020-02-29", "-0800", "10:00+0100"}},
		{"2020-02-29 10:00:00+0100", []string{"2020-02-29", "10:00+0100", "-0800", "Z"}},
		// Of a time that comes too late the zone may be in time.
		{"2020-02-29 10:00:00Z", []string{"2020-02-29", "10:00", "11:00Z", "12:00-08"}},
		// What is behind a time must be a zone, with bytes 32 ahead alone.
		{"2020-02-29", []string{"2020-02-29", "10:00x", "10:00+", "10:00Zx", "10:00+1", "10:00+01:0", "10:00\t+01", "10:00+15", "10:00 Z Z"}},
		{"2020-02-29", []string{"2020-02-29", "T10:00", "10", "1:00", "25:00", "10:60", "0pm", "10:00 pm", "Z10:00", "+01 10:00"}},
		// A moment stands as it stood, trimmed, if it comes first, and nothing counts behind it.
		{"2020-02-29T10:00", []string{"2020-02-29T10:00"}},
		{"2020-060 10:00:00.5  z", []string{" \n2020-060 10:00:00.5  z\f "}},
		{"2020-02-29t10:00-08", []string{"x", "", "2020-02-29t10:00-08", "2021-01-01T00:00Z"}},
		{"2020-02-29T10:00", []string{"2020-02-29T10:00", "-0800"}},
		{"2020-02-29T10:00", []string{"2020-02-29T10:00", "11:00Z"}},
		{"2020-02-29T10:00", []string{"2020-02-29T10:00", "2021-01-01"}},
		{"2020-02-29T10:00", []string{"2020-02-29T10:00", "2021-01-01", "11:00", "Z"}},
		{"2021-01-01", []string{"2021-01-01", "2020-02-29T10:00"}},
		{"", []string{"11:00", "2020-02-29T10:00"}},
		{"", []string{"Z", "2020-02-29T10:00"}},
		{"2021-01-01 11:00:00", []string{"11:00", "2020-02-29T10:00Z", "2021-01-01"}},
		{"2021-01-01", []string{"2020-02-29 7pm", "2020-02-29T24:00", "2021-01-01"}},
	} {
		if got := value.Put(c.pieces...); got != c.want {
			t.Errorf("Put of %q is %q, want %q", c.pieces, got, c.want)
		}
	}
}

// isMoment tells whether a text is parsed as a moment with a time, or a day.
func isMoment(s string) bool {
	_, why := date.Parse(s)
	return why == api.OK
}

// P15.2, P15.5: of all lists of pieces that matter.
func TestPieces(t *testing.T) {
	use := func(pieces ...string) {
		got := value.Put(pieces...)
		if want := wordedPut(pieces...); got != want {
			t.Fatalf("Put of %q is %q, want %q", pieces, got, want)
		}
		if got != "" && !isMoment(got) {
			t.Fatalf("Put of %q is %q, which is none", pieces, got)
		}
	}
	lists(5, use, "2020-02-29", "2019-365", "10:00", "7:30:59pm -0800", "11:11:60z", "+01:00", "Z", "2018-01-01T00:00Z", "x", "")
	signs := []string{"2020", "-02", "-29", "-060", "T", " ", "10", ":30", "7", "pm", "a.m.", "+01", "-0800", ":00", "Z", "z", ".5", "\t", "\n", "\xff"}
	lists(4, func(parts ...string) {
		s := strings.Join(parts, "")
		use(s)
		use("2020-02-28", s, "23:59")
	}, signs...)
	chance := rand.New(rand.NewSource(15))
	for range 200000 {
		var s string
		for range chance.Intn(9) {
			s += signs[chance.Intn(len(signs))]
		}
		use(s)
		use("2020-02-28", s)
		use("10:00", s, "2020-02-28")
	}
}

// P15.2, P15.5: of each day there is.
func TestEveryDay(t *testing.T) {
	for days := int64(-719162); days <= 2932896; days += 19 {
		at := time.Unix(days*86400+days&0x7fff, 0).UTC()
		want := at.Format("2006-01-02")
		for _, layout := range []string{"2006-01-02", "2006-002"} {
			if got := value.Put(at.Format(layout)); got != want {
				t.Fatalf("Put of %s is %q, want %q", at.Format(layout), got, want)
			}
			if got, want := value.Put(at.Format("3:04pm"), at.Format(layout)), want+at.Format(" 15:04:00"); got != want {
				t.Fatalf("%q, want %q", got, want)
			}
		}
		if got, want := value.Put(at.Format("15:04:05Z"), want), at.Format("2006-01-02 15:04:05Z"); got != want || !isMoment(got) {
			t.Fatalf("%q, want %q", got, want)
		}
	}
}

const base = "http://ex.org/a/b?c#d"

// P15.3
func TestURL(t *testing.T) {
	for _, c := range []struct{ s, want string }{
		// Its own link, trimmed, if it has it.
		{"<a href=x>y</a>", "http://ex.org/a/x"},
		{"<a href=' /x '>y</a>", "http://ex.org/x"},
		{"<a href>y</a>", "http://ex.org/a/b?c"},
		{"<a href=' http://:1 '>y</a>", "http://:1"},
		{"<a href='mailto:x@y\n'>y</a>", "mailto:x@y"},
		{"<a href='&nbsp;x'>y</a>", "http://ex.org/a/%C2%A0x"},
		{"<area href=x alt=y>", "http://ex.org/a/x"},
		{"<link href=x title=y>", "http://ex.org/a/x"},
		{"<img src=x alt=y>", "http://ex.org/a/x"},
		{"<audio src=x>y</audio>", "http://ex.org/a/x"},
		{"<video src=x poster=y>y</video>", "http://ex.org/a/x"},
		{"<video src poster=y>y</video>", "http://ex.org/a/b?c"},
		{"<video poster=' x '>y</video>", "http://ex.org/a/x"},
		{"<source src=x>", "http://ex.org/a/x"},
		{"<iframe src=x>y</iframe>", "http://ex.org/a/x"},
		{"<object data=' x '>y</object>", "http://ex.org/a/x"},
		// The link goes ahead of parts.
		{"<a href=x><b class=value>y</b></a>", "http://ex.org/a/x"},
		{"<video poster=x><b class=value>y</b></video>", "http://ex.org/a/x"},
		// Without a link of its name: parts.
		{"<a src=x data=x poster=x><b class=value>y</b></a>", "http://ex.org/a/y"},
		{"<audio href=x poster=x><b class=value>y</b></audio>", "http://ex.org/a/y"},
		{"<object src=x href=x><b class=value>y</b></object>", "http://ex.org/a/y"},
		{"<p href=x src=x><b class=value>/y</b><i class=value>z</i>x</p>", "http://ex.org/yz"},
		{"<p><time class=value datetime=x>y</time></p>", "http://ex.org/a/y"},
		{"<p>x<b class=value></b></p>", "http://ex.org/a/b?c"},
		{"<p>x<b class=value-title title=' http://:1 '></b></p>", " http://:1 "},
		{"<abbr title=x><b class=value>y</b></abbr>", "http://ex.org/a/y"},
		{"<data value=x><b class=value>y</b></data>", "http://ex.org/a/y"},
		// Without parts: what its name says, as it is.
		{"<abbr title=x>y</abbr>", "http://ex.org/a/x"},
		{"<abbr title=' http://:1 '>y</abbr>", " http://:1 "},
		{"<abbr value=x>y</abbr>", "http://ex.org/a/y"},
		{"<data value=x>y</data>", "http://ex.org/a/x"},
		{"<data value>y</data>", "http://ex.org/a/b?c"},
		{"<data title=x>y</data>", "http://ex.org/a/y"},
		{"<input value=x>", "http://ex.org/a/x"},
		{"<input title=x src=x>", "http://ex.org/a/b?c"},
		// Or else its Plain.
		{"<p> x </p>", "http://ex.org/a/x"},
		{"<p>http://:1 </p>", "http://:1"},
		{"<a>x</a>", "http://ex.org/a/x"},
		{"<area alt=x>", "http://ex.org/a/b?c"},
		{"<img alt=x>", "http://ex.org/a/b?c"},
		{"<link title=x>", "http://ex.org/a/b?c"},
		{"<p><a href=y>x</a></p>", "http://ex.org/a/x"},
		{"<time datetime=y>x</time>", "http://ex.org/a/x"},
		{"<embed src=x>", "http://ex.org/a/b?c"},
		{"<p></p>", "http://ex.org/a/b?c"},
	} {
		d := parse(t, c.s)
		if got := value.URL(d, 1, at(t, base)); got != c.want {
			t.Errorf("URL of %q is %q, want %q", c.s, got, c.want)
		}
		// A base that may not be leaves links as they are.
		if got, want := value.URL(d, 1, api.URL{}), wordedURL(d, 1, api.URL{}); got != want {
			t.Errorf("URL of %q without a base is %q, want %q", c.s, got, want)
		}
	}
	d := parse(t, "<a href=' x '>y</a>")
	if got := value.URL(d, 1, api.URL{Scheme: "ftp", Host: "a", Path: "/"}); got != "x" {
		t.Errorf("%q", got)
	}
}

// P15.3
func TestFull(t *testing.T) {
	for _, c := range []struct{ s, base, want string }{
		{"x", base, "http://ex.org/a/x"},
		{"", base, "http://ex.org/a/b?c"},
		{" ../x y#z ", base, "http://ex.org/x%20y#z"},
		{"?x", base, "http://ex.org/a/b?x"},
		{"#x", base, "http://ex.org/a/b?c#x"},
		{"//a.b", base, "http://a.b/"},
		{"//a.b:443", "https://ex.org/", "https://a.b/"},
		{"HTTP://A.b:80/./c", base, "http://a.b/c"},
		{"https:x", base, "https:x"},
		{"http:x", base, "http://ex.org/a/x"},
		// With an error it is as it was.
		{" mailto:x ", base, " mailto:x "},
		{"http://", base, "http://"},
		{"http://a@b/", base, "http://a@b/"},
		{"//x:99999", base, "//x:99999"},
		{"data:,\t", base, "data:,\t"},
		{strings.Repeat("x", 2049), base, strings.Repeat("x", 2049)},
		{strings.Repeat("\xff", 1000), base, strings.Repeat("\xff", 1000)},
		{strings.Repeat("x", 2048-len("http://ex.org/")), "http://ex.org/", "http://ex.org/" + strings.Repeat("x", 2048-len("http://ex.org/"))},
		{strings.Repeat("x", 2049-len("http://ex.org/")), "http://ex.org/", strings.Repeat("x", 2049-len("http://ex.org/"))},
	} {
		if got := value.Full(c.s, at(t, c.base)); got != c.want {
			t.Errorf("Full of %.80q at %s is %.80q, want %.80q", c.s, c.base, got, c.want)
		}
	}
	for _, u := range []api.URL{{}, {Scheme: "http", Host: "a"}, {Scheme: "http", Host: "a", Path: "/", Port: 80}, {Scheme: "http", Host: "A", Path: "/"}} {
		for _, s := range []string{"x", "", " http://A.b/ ", "//a.b"} {
			if got := value.Full(s, u); got != s {
				t.Errorf("Full of %q at %+v is %q", s, u, got)
			}
		}
	}
}

// P15.3, P15.6: of all short links.
func TestLinks(t *testing.T) {
	bases := []api.URL{at(t, base), at(t, "https://a.b:8/"), {}, {Scheme: "http", Host: "a"}}
	lists(4, func(parts ...string) {
		s := strings.Join(parts, "")
		for _, u := range bases {
			full := value.Full(s, u)
			if want := wordedFull(s, u); full != want {
				t.Fatalf("Full of %q at %+v is %q, want %q", s, u, full, want)
			}
			parsed, why := url.Parse(full)
			if why != api.OK || !url.May(u) {
				continue
			}
			for _, other := range bases {
				if again := value.Full(full, other); again != full || full != url.String(parsed) {
					t.Fatalf("Full of %q at %+v is %q", full, other, again)
				}
			}
		}
	}, "http:", "https:", "//", "/", "..", "a.b", "A", "?", "#", ":8", " ", "\xff", "mailto:", "@")
}

// check holds all calls at a place of a tree that may be against what the chapter's words say.
func check(t *testing.T, d api.Doc, i int, u api.URL) {
	t.Helper()
	var parts []int
	var told [3]string
	if d.Nodes[i].Kind == api.Element {
		parts, told = wordedParts(d, i), [3]string{wordedText(d, i), wordedDate(d, i), wordedURL(d, i, u)}
	}
	got := value.Parts(d, i)
	if !slices.Equal(got, parts) || !slices.IsSorted(got) || !areApart(d, got) {
		t.Fatalf("Parts at %d are %v, want %v: %+v", i, got, parts, d)
	}
	if got := [3]string{value.Text(d, i), value.Date(d, i), value.URL(d, i, u)}; got != told {
		t.Fatalf("at %d %q are told, want %q: %+v", i, got, told, d)
	}
}

// pieces are what documents are made of.
func pieces() []string {
	return []string{
		"x", " ", "2020-02-29", "7pm", "2020-060T10:00z", "<p>", "</p>", "<b class=value>", "</b>", "<i class=' value-title a' title='10:00'>", "</i>",
		"<i class=value-title>", "<b class=p-a>", "<i class='u- dt'>", "<u class='value h-x'>", "</u>", "<br>", "<p class='e-x'><b class=value>y",
		"<img class=value alt=' -08 '>", "<img class=value src=i>", "<img src=j alt=k>", "<area class=value alt=7am href=l>", "<area alt=m>",
		"<data class=value value=2019-01-01>", "<data value=' /n '>", "</data>", "<data>", "<abbr class=value title=23:59:60>", "<abbr title=' o '>", "</abbr>",
		"<time class=value datetime='2018-001 '>", "<time datetime=' q '>", "</time>", "<ins class=value datetime=1am>", "</ins>", "<del datetime=r>", "</del>",
		"<input value=' s'>", "<input class=value value=9pm>", "<link title=t>", "<link href=' u ' class=value>", "<a href='http://:v '>", "<a class=value>", "</a>",
		"<video poster=w>", "<video src poster=w>", "</video>", "<object data=y>", "</object>", "<iframe src=z>", "</iframe>", "<source src=A><audio>", "</audio>",
	}
}

// P15.1 to P15.5: at each place of many documents.
func TestDocuments(t *testing.T) {
	u := at(t, base)
	use := func(parts ...string) {
		d := parse(t, strings.Join(parts, ""))
		for i := range d.Nodes {
			check(t, d, i, u)
		}
	}
	lists(2, use, pieces()...)
	lists(5, use, "<p class=p-a>", "</p>", "<b class=value>x", "</b>", "<i class='value-title' title=y>")
	lists(5, use, "2020-02-29", "<b class=value>", "</b>", "<time class=value datetime=10:00>")
	chance := rand.New(rand.NewSource(16))
	for range 4000 {
		var s []string
		for range 1 + chance.Intn(14) {
			s = append(s, pieces()[chance.Intn(len(pieces()))])
		}
		use(s...)
	}
}

// madeByChance are trees that were not parsed: void ones have something in them, attributes come again, and what lies in a node does not stand together.
func madeByChance(count, most int) []api.Doc {
	chance := rand.New(rand.NewSource(17))
	one := func(of ...string) string { return of[chance.Intn(len(of))] }
	all := make([]api.Doc, count)
	for i := range all {
		free := []int{0}
		var nodes []api.Node
		for range chance.Intn(most) {
			up := free[chance.Intn(len(free))]
			if chance.Intn(4) == 0 {
				nodes = append(nodes, text(up, one("x", " ", "7pm", " 2020-02-29\n", "\u00a0", "\xff")))
				continue
			}
			n := element(up, one("p", "b", "img", "area", "data", "abbr", "time", "ins", "del", "link", "input", "a", "video", "object", "IMG", "Data", "script", "br"))
			for range chance.Intn(4) {
				n.Attrs = append(n.Attrs, api.Attr{
					Name:  one("class", "class", "alt", "value", "title", "datetime", "href", "src", "poster", "data", "Class", "Title"),
					Value: one("", " ", "value", "a value-title", "value\tp-x", "h-x", "u- value", "2020-060", " 10:00 ", "2020-01-01T01:01", "/x y", "\xff", "http://:1"),
				})
			}
			nodes = append(nodes, n)
			free = append(free, len(nodes))
		}
		all[i] = made(nodes...)
	}
	return all
}

// P15.1 to P15.5: at each place of trees that were not parsed.
func TestTrees(t *testing.T) {
	u := at(t, base)
	for _, d := range madeByChance(6000, 12) {
		if !tree.May(d) {
			t.Fatalf("%+v may not be", d)
		}
		for i := range d.Nodes {
			check(t, d, i, u)
			check(t, d, i, api.URL{})
		}
	}
}

// tellsNothing tests that all answers are nothing, empty.
func tellsNothing(t *testing.T, what string, d api.Doc, i int) {
	t.Helper()
	if got := value.Parts(d, i); len(got) != 0 {
		t.Errorf("%s: Parts at %d are %v", what, i, got)
	}
	if text, date, link := value.Text(d, i), value.Date(d, i), value.URL(d, i, at(t, base)); text != "" || date != "" || link != "" {
		t.Errorf("%s: at %d %q, %q, %q", what, i, text, date, link)
	}
}

// P15.1 to P15.3: of no Element's place there is nothing; a Root and a Text are none.
func TestNoElement(t *testing.T) {
	d := parse(t, "x<b class=value>2020-02-29</b><p>y</p>")
	for _, i := range []int{0, 1, 3, 5, -1, -2, len(d.Nodes), len(d.Nodes) + 1, 1 << 31, math.MaxInt, math.MinInt} {
		tellsNothing(t, "parsed", d, i)
	}
	for _, d := range []api.Doc{{}, {Nodes: []api.Node{}}, made()} {
		for i := -1; i <= 2; i++ {
			tellsNothing(t, "no Element", d, i)
		}
	}
}

// P15.1 to P15.3: of a tree that may not be there is nothing.
func TestNoTree(t *testing.T) {
	// Each of its Elements tells something by its attributes alone.
	base := made(element(0, "abbr", "title", "x"), text(1, "x"), element(1, "data", "value", "2020-02-29", "class", "value"), text(3, "y"), text(0, "z"))
	for what, turn := range map[string]func(n []api.Node){
		"Root's kind":       func(n []api.Node) { n[0].Kind = api.Element },
		"Root's Up":         func(n []api.Node) { n[0].Up = 0 },
		"another kind":      func(n []api.Node) { n[2].Kind = 4 },
		"no name":           func(n []api.Node) { n[3].Name = "" },
		"an Element's Text": func(n []api.Node) { n[1].Text = "x" },
		"a nameless one":    func(n []api.Node) { n[3].Attrs[0].Name = "" },
		"an empty Text":     func(n []api.Node) { n[5].Text = "" },
		"a Kid past it":     func(n []api.Node) { n[1].Kids = []int{2, 3, 6} },
		"a Kid below 0":     func(n []api.Node) { n[0].Kids = []int{-1, 1, 5} },
		"a Kid twice":       func(n []api.Node) { n[1].Kids = []int{2, 3, 3} },
		"a Kid less":        func(n []api.Node) { n[1].Kids = []int{2} },
		"itself as a Kid":   func(n []api.Node) { n[3].Kids = []int{3, 4} },
		"in itself":         func(n []api.Node) { n[3].Up, n[3].Kids, n[1].Kids = 3, []int{3, 4}, []int{2} },
		"an Up past it":     func(n []api.Node) { n[3].Up = 6 },
		"an Up below 0":     func(n []api.Node) { n[3].Up = math.MinInt },
	} {
		d := copied(base)
		turn(d.Nodes)
		for i := -2; i <= len(d.Nodes)+1; i++ {
			tellsNothing(t, what, d, i)
		}
	}
	for _, count := range []int{4096, 4097} {
		nodes := slices.Repeat([]api.Node{element(1, "b", "class", "value")}, count-1)
		nodes[0], nodes[1], nodes[2] = element(0, "p"), element(1, "b", "class", "value"), text(2, "2020-02-29")
		d := made(nodes...)
		if count > 4096 {
			tellsNothing(t, "too many nodes", d, 1)
			continue
		}
		if parts, text, date := value.Parts(d, 1), value.Text(d, 1), value.Date(d, 1); len(parts) != count-3 || text != "2020-02-29" || date != text {
			t.Errorf("%d nodes tell too little: %d, %q, %q", count, len(parts), text, date)
		}
	}
}

// R3, R4: nothing is written into what is handed in or kept, and what is answered is the caller's.
func TestOwn(t *testing.T) {
	d := parse(t, "<p class='p-a'><b class=value>2020-02-29</b><i class=value-title title=7pm>z</i></p>")
	before := copied(d)
	list := []string{" 2020-02-29", "7pm ", "z"}
	for range 2 {
		for i := range d.Nodes {
			check(t, d, i, at(t, base))
		}
		parts := value.Parts(d, 1)
		for i := range parts[:cap(parts)] {
			parts[:cap(parts)][i] = -7
		}
		if got := value.Put(list...); got != "2020-02-29 19:00:00Z" || !slices.Equal(list, []string{" 2020-02-29", "7pm ", "z"}) {
			t.Fatalf("%q of %q", got, list)
		}
		if !tree.Same(d, before) {
			t.Fatalf("a call wrote into what it was handed: %+v", d)
		}
	}
}

// R1: great inputs end, too.
func TestGreat(t *testing.T) {
	deep := make([]api.Node, 4095)
	for i := range deep {
		deep[i] = element(i, "b", "class", "a")
	}
	deep[4093] = element(4093, "b", "class", "value")
	deep[4094] = text(4094, "7pm")
	d := made(deep...)
	if parts, text, date := value.Parts(d, 1), value.Text(d, 1), value.Date(d, 1); !slices.Equal(parts, []int{4094}) || text != "7pm" || date != "7pm" {
		t.Errorf("%v, %q, %q", parts, text, date)
	}
	many := slices.Repeat([]string{"x", "2020-02-29T10:00 x", "1:00", "+99"}, 1<<18)
	many = append(many, "23:59", "-14", "2020-366")
	if got := value.Put(many...); got != "2020-12-31 23:59:00-14" {
		t.Errorf("%q", got)
	}
	long := strings.Repeat(" ", 1<<20)
	if got := value.Put("2020-02-29", "23:59"+long+"Z"+long); got != "2020-02-29 23:59:00Z" {
		t.Errorf("%.80q", got)
	}
	if got := value.Full(long+"x"+long, at(t, base)); got != "http://ex.org/a/x" {
		t.Errorf("%.80q", got)
	}
	if got := value.Full(long[1:]+"x y"+long[1:]+"z", at(t, base)); len(got) != 2*len(long)+2 {
		t.Errorf("%d bytes", len(got))
	}
}
