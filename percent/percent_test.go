package percent_test

import (
	"fmt"
	"slices"
	"strings"
	"testing"

	"cringle/api"
	"cringle/percent"
	"cringle/utf"
)

// plain are the plain bytes, written out.
const plain = "ABCDEFGHIJKLMNOPQRSTUVWXYZabcdefghijklmnopqrstuvwxyz0123456789-._~"

// texts are all texts of at most size bytes of the alphabet.
func texts(alphabet string, size int) []string {
	all := []string{""}
	for from := 0; size > 0; size-- {
		to := len(all)
		for _, s := range all[from:to] {
			for i := range len(alphabet) {
				all = append(all, s+alphabet[i:i+1])
			}
		}
		from = to
	}
	return all
}

// bytes are all bytes, rising.
func bytes() string {
	var b [256]byte
	for i := range b {
		b[i] = byte(i)
	}
	return string(b[:])
}

// marks are all marks' bytes by their texts, of any letters.
func marks() map[string]byte {
	m := map[string]byte{}
	for i := range 256 {
		for _, form := range []string{"%%%02X", "%%%02x"} {
			m[fmt.Sprintf(form, i)] = byte(i)
		}
		great, small := fmt.Sprintf("%02X", i), fmt.Sprintf("%02x", i)
		m["%"+great[:1]+small[1:]] = byte(i)
		m["%"+small[:1]+great[1:]] = byte(i)
	}
	return m
}

// unmarked is the document's definition of it, by a table of all marks.
func unmarked(m map[string]byte, s string) string {
	var out []byte
	for s != "" {
		if len(s) >= 3 {
			if c, ok := m[s[:3]]; ok {
				out = append(out, c)
				s = s[3:]
				continue
			}
		}
		out = append(out, s[0])
		s = s[1:]
	}
	return string(out)
}

// P3.1
func TestMarkEachByte(t *testing.T) {
	for i := range 256 {
		s := string([]byte{byte(i)})
		want := fmt.Sprintf("%%%02X", i)
		if strings.Contains(plain, s) {
			want = s
		}
		if got := percent.Mark(s, ""); got != want {
			t.Errorf("Mark(%q) = %q, want %q", s, got, want)
		}
		for j := range 256 {
			free := string([]byte{byte(j)})
			wanted := want
			if i == j {
				wanted = s
			}
			if got := percent.Mark(s, free); got != wanted {
				t.Errorf("Mark(%q, %q) = %q, want %q", s, free, got, wanted)
			}
		}
	}
}

// P3.1
func TestMark(t *testing.T) {
	for _, c := range []struct{ s, free, want string }{
		{"", "", ""},
		{"", "/", ""},
		{plain, "", plain},
		{plain, "%", plain},
		{"a b", "", "a%20b"},
		{"a+b", "", "a%2Bb"},
		{"/a/b?c=d&e", "/", "/a/b%3Fc%3Dd%26e"},
		{"/a/b?c=d&e", "&=?/", "/a/b?c=d&e"},
		{"%41", "", "%2541"},
		{"%41", "%", "%41"},
		{"é", "", "%C3%A9"},
		// The free ones are bytes, not signs.
		{"\u00e9\u00e8", "\xc3", "\xc3%A9\xc3%A8"},
		{"\u20ac", "é", "%E2%82%AC"},
		{"\xff\xfe\x00\x7f", "", "%FF%FE%00%7F"},
		{"\xff\xfe\x00\x7f", "\xff\x00", "\xff%FE\x00%7F"},
		// A free one frees itself alone: neither a range, nor the other letter's case.
		{"!\"#,", "!-#", "!%22#%2C"},
		{"[]^", "]", "%5B]%5E"},
		{" ", "  ", " "},
	} {
		if got := percent.Mark(c.s, c.free); got != c.want {
			t.Errorf("Mark(%q, %q) = %q, want %q", c.s, c.free, got, c.want)
		}
	}
}

// P3.1: each byte's mark hangs on that byte alone.
func TestMarkGoesByteByByte(t *testing.T) {
	for _, free := range []string{"", "/", "% ", "\xc3/+"} {
		for _, s := range texts("a%/+ \xc3\xa9\x00", 4) {
			want := ""
			for i := range len(s) {
				want += percent.Mark(s[i:i+1], free)
			}
			if got := percent.Mark(s, free); got != want {
				t.Fatalf("Mark(%q, %q) = %q, want %q", s, free, got, want)
			}
		}
	}
}

// P3.1
func TestUnmarkEachMark(t *testing.T) {
	hex := "0123456789abcdefABCDEF"
	all := bytes()
	for i := range 256 {
		for j := range 256 {
			s := "%" + all[i:i+1] + all[j:j+1]
			want := s
			if strings.Contains(hex, all[i:i+1]) && strings.Contains(hex, all[j:j+1]) {
				var n int
				if _, err := fmt.Sscanf(s[1:], "%x", &n); err != nil {
					t.Fatal(err)
				}
				want = all[n : n+1]
			}
			if got := percent.Unmark(s); got != want {
				t.Errorf("Unmark(%q) = %q, want %q", s, got, want)
			}
		}
	}
}

// P3.1
func TestUnmark(t *testing.T) {
	for _, c := range []struct{ s, want string }{
		{"", ""},
		{"a b+c", "a b+c"},
		{"a%20b", "a b"},
		{"%c3%A9", "é"},
		{"%2b%2B", "++"},
		{"%", "%"},
		{"%4", "%4"},
		{"a%", "a%"},
		{"a%4", "a%4"},
		{"%%", "%%"},
		{"%%%", "%%%"},
		{"%%41", "%A"},
		{"%4%41", "%4A"},
		{"%g1%1g%41", "%g1%1gA"},
		{"%4\x00%00", "%4\x00\x00"},
		// What was told is not unmarked once more.
		{"%2541", "%41"},
		{"%25%34%31", "%41"},
		{"%2%35", "%25"},
		{"%254%31", "%41"},
		// No sign, no blank, nothing but two hex digits.
		{"% 41", "% 41"},
		{"%+1", "%+1"},
		{"%-1", "%-1"},
		{"%0x41", "%0x41"},
		{"%_1", "%_1"},
		{"%u0041", "%u0041"},
		{"%\uff11\uff11", "%\uff11\uff11"},
		{"\xff%ff\xff", "\xff\xff\xff"},
	} {
		if got := percent.Unmark(c.s); got != c.want {
			t.Errorf("Unmark(%q) = %q, want %q", c.s, got, c.want)
		}
	}
}

// P3.1
func TestUnmarkAgainstAllMarks(t *testing.T) {
	m := marks()
	for _, s := range texts("%0245fFg", 6) {
		if got, want := percent.Unmark(s), unmarked(m, s); got != want {
			t.Fatalf("Unmark(%q) = %q, want %q", s, got, want)
		}
	}
}

// P3.2
func TestForm(t *testing.T) {
	for _, c := range []struct {
		pairs []percent.Pair
		want  string
	}{
		{nil, ""},
		{[]percent.Pair{}, ""},
		{[]percent.Pair{{}}, "="},
		{[]percent.Pair{{}, {}}, "=&="},
		{[]percent.Pair{{Name: "a"}}, "a="},
		{[]percent.Pair{{Value: "a"}}, "=a"},
		{[]percent.Pair{{Name: "a b", Value: "é"}}, "a+b=%C3%A9"},
		{[]percent.Pair{{Name: "a", Value: "b"}, {Name: "c", Value: "d"}, {Name: "a", Value: "b"}}, "a=b&c=d&a=b"},
		{[]percent.Pair{{Name: "a+b", Value: "c+ d"}}, "a%2Bb=c%2B+d"},
		{[]percent.Pair{{Name: "a=b", Value: "c=d&e"}}, "a%3Db=c%3Dd%26e"},
		{[]percent.Pair{{Name: "a[]", Value: "%20"}}, "a%5B%5D=%2520"},
		{[]percent.Pair{{Name: plain, Value: plain}}, plain + "=" + plain},
		{[]percent.Pair{{Name: "\t\n", Value: "\r\n\x00 \x7f"}}, "%09%0A=%0D%0A%00+%7F"},
		{[]percent.Pair{{Name: "*", Value: "!'()"}}, "%2A=%21%27%28%29"},
		{[]percent.Pair{{Name: "\xff", Value: "\xe2\x82"}}, "%FF=%E2%82"},
	} {
		if got := percent.Form(c.pairs...); got != c.want {
			t.Errorf("Form(%q) = %q, want %q", c.pairs, got, c.want)
		}
	}
}

// P3.2: each byte in names and values.
func TestFormEachByte(t *testing.T) {
	for i := range 256 {
		s := string([]byte{byte(i)})
		want := fmt.Sprintf("%%%02X", i)
		switch {
		case i == 32:
			want = "+"
		case strings.Contains(plain, s):
			want = s
		}
		if got := percent.Form(percent.Pair{Name: s, Value: s + s}); got != want+"="+want+want {
			t.Errorf("Form of the byte %d: %q", i, got)
		}
	}
}

// P3.2
func TestParse(t *testing.T) {
	for _, c := range []struct {
		s    string
		want []percent.Pair
	}{
		{"", nil},
		{"&", nil},
		{"&&&", nil},
		{"a", []percent.Pair{{Name: "a"}}},
		{"a=", []percent.Pair{{Name: "a"}}},
		{"=", []percent.Pair{{}}},
		{"=a", []percent.Pair{{Value: "a"}}},
		{"==", []percent.Pair{{Value: "="}}},
		{"a=b=c", []percent.Pair{{Name: "a", Value: "b=c"}}},
		{"a=b&c=d", []percent.Pair{{Name: "a", Value: "b"}, {Name: "c", Value: "d"}}},
		{"&a=b&&c&", []percent.Pair{{Name: "a", Value: "b"}, {Name: "c"}}},
		{"a=1&a=2&a=1", []percent.Pair{{Name: "a", Value: "1"}, {Name: "a", Value: "2"}, {Name: "a", Value: "1"}}},
		{"a+b=%C3%A9", []percent.Pair{{Name: "a b", Value: "é"}}},
		{"+=+", []percent.Pair{{Name: " ", Value: " "}}},
		{"a%2Bb=c%2b+d", []percent.Pair{{Name: "a+b", Value: "c+ d"}}},
		// What marks tell neither parts pairs, nor names and values.
		{"a%3Db%26c=d%3De", []percent.Pair{{Name: "a=b&c", Value: "d=e"}}},
		{"a%5B%5D=x&a[]=y", []percent.Pair{{Name: "a[]", Value: "x"}, {Name: "a[]", Value: "y"}}},
		{"%2541=%252B", []percent.Pair{{Name: "%41", Value: "%2B"}}},
		// A mark that a pair's or a part's end cuts is none; nor is one with a + in it.
		{"a=%&41=%4", []percent.Pair{{Name: "a", Value: "%"}, {Name: "41", Value: "%4"}}},
		{"%=41", []percent.Pair{{Name: "%", Value: "41"}}},
		{"%4=1", []percent.Pair{{Name: "%4", Value: "1"}}},
		{"%+41", []percent.Pair{{Name: "% 41"}}},
		{"a;b=c", []percent.Pair{{Name: "a;b", Value: "c"}}},
		{" a = b ", []percent.Pair{{Name: " a ", Value: " b "}}},
		{"?a=b#c", []percent.Pair{{Name: "?a", Value: "b#c"}}},
		// Repaired when unmarked, each of both on its own.
		{"%FF=\xff", []percent.Pair{{Name: "\ufffd", Value: "\ufffd"}}},
		{"%e2%82A=\xe2%82%AC", []percent.Pair{{Name: "\ufffdA", Value: "\u20ac"}}},
		{"%c3=%a9", []percent.Pair{{Name: "\ufffd", Value: "\ufffd"}}},
		{"\xc3&\xa9", []percent.Pair{{Name: "\ufffd"}, {Name: "\ufffd"}}},
		{"\xc3+\xa9", []percent.Pair{{Name: "\ufffd \ufffd"}}},
		{"%F0%9F%98=%00", []percent.Pair{{Name: "\ufffd", Value: "\x00"}}},
		{"%EF%BF%BD", []percent.Pair{{Name: "\ufffd"}}},
	} {
		got, why := percent.Parse(c.s)
		if why != api.OK || !slices.Equal(got, c.want) {
			t.Errorf("Parse(%q) = %q, %d, want %q", c.s, got, why, c.want)
		}
	}
}

// parsed is the document's definition of it, with each part found byte by byte.
func parsed(m map[string]byte, s string) []percent.Pair {
	var pairs []percent.Pair
	for _, part := range strings.Split(s, "&") {
		if part == "" {
			continue
		}
		at := strings.IndexByte(part, '=')
		name, value := part, ""
		if at >= 0 {
			name, value = part[:at], part[at+1:]
		}
		tell := func(s string) string {
			return utf.Repair(unmarked(m, strings.Map(func(r rune) rune {
				if r == '+' {
					return ' '
				}
				return r
			}, s)))
		}
		pairs = append(pairs, percent.Pair{Name: tell(name), Value: tell(value)})
	}
	return pairs
}

// P3.2
func TestParseAgainstTheDefinition(t *testing.T) {
	m := marks()
	for _, s := range texts("&=+%23a", 6) {
		got, why := percent.Parse(s)
		if want := parsed(m, s); why != api.OK || !slices.Equal(got, want) {
			t.Fatalf("Parse(%q) = %q, %d, want %q", s, got, why, want)
		}
	}
}

// P3.2
func TestParseMany(t *testing.T) {
	for _, c := range []struct {
		name, s string
		pairs   int
		why     api.Errno
	}{
		{"512 &", strings.Repeat("&", 512), 0, api.OK},
		{"513 &", strings.Repeat("&", 513), 0, api.ErrMany},
		{"513 parts", strings.Repeat("a=b&", 512) + "a=b", 513, api.OK},
		{"512 parts and an end", strings.Repeat("a=b&", 512), 512, api.OK},
		{"513 parts and an end", strings.Repeat("a=b&", 513), 0, api.ErrMany},
		{"empty parts count by their &", "a=b" + strings.Repeat("&", 513), 0, api.ErrMany},
		{"two parts far apart", "a=b" + strings.Repeat("&", 512) + "c", 2, api.OK},
		{"far too many", strings.Repeat("&", 1<<20), 0, api.ErrMany},
		{"too many, and no text", "\xff%" + strings.Repeat("&=", 513), 0, api.ErrMany},
		{"marked ones do not count", strings.Repeat("%26", 600), 1, api.OK},
		{"nor do = and ;", strings.Repeat("=;", 600), 1, api.OK},
	} {
		got, why := percent.Parse(c.s)
		if len(got) != c.pairs || why != c.why {
			t.Errorf("%s: %d pairs, %d, want %d, %d", c.name, len(got), why, c.pairs, c.why)
		}
	}
}

// P3.3
func TestGet(t *testing.T) {
	l := []percent.Pair{{Name: "a", Value: "1"}, {Name: "b[]", Value: "2"}, {Name: "A", Value: "3"}, {Name: "a", Value: "4"}, {Name: "", Value: "5"}, {Name: "c", Value: ""}, {Name: "c", Value: "6"}, {Name: "\xff", Value: "7"}}
	for _, c := range []struct {
		l     []percent.Pair
		name  string
		value string
		ok    bool
	}{
		{l, "a", "1", true},
		{l, "A", "3", true},
		{l, "b[]", "2", true},
		{l, "b", "", false},
		{l, "", "5", true},
		{l, "c", "", true},
		{l, "\xff", "7", true},
		{l, "\ufffd", "", false},
		{l, "d", "", false},
		{l, "aa", "", false},
		{l[1:], "a", "4", true},
		{l[:4], "", "", false},
		{nil, "a", "", false},
		{nil, "", "", false},
		{[]percent.Pair{}, "", "", false},
		{[]percent.Pair{{}}, "", "", true},
	} {
		if value, ok := percent.Get(c.l, c.name); value != c.value || ok != c.ok {
			t.Errorf("Get(%q, %q) = %q, %v, want %q, %v", c.l, c.name, value, ok, c.value, c.ok)
		}
	}
}

// P3.3
func TestAll(t *testing.T) {
	l := []percent.Pair{{Name: "a[]", Value: "1"}, {Name: "b", Value: "2"}, {Name: "a", Value: "3"}, {Name: "a[]", Value: "3"}, {Name: "a[][]", Value: "4"}, {Name: "[]", Value: "5"}, {Name: "", Value: "6"}, {Name: "a[0]", Value: "7"}, {Name: "c", Value: ""}, {Name: "A[]", Value: "8"}, {Name: "a[", Value: "9"}}
	for _, c := range []struct {
		l    []percent.Pair
		name string
		want []string
	}{
		{l, "a", []string{"1", "3", "3"}},
		{l, "a[]", []string{"1", "3", "4"}},
		{l, "a[][]", []string{"4"}},
		{l, "b", []string{"2"}},
		{l, "b[]", nil},
		{l, "", []string{"5", "6"}},
		{l, "[]", []string{"5"}},
		{l, "c", []string{""}},
		{l, "A", []string{"8"}},
		{l, "d", nil},
		{l, "a[0]", []string{"7"}},
		{l, "a[", []string{"9"}},
		{nil, "a", nil},
		{[]percent.Pair{}, "", nil},
	} {
		if got := percent.All(c.l, c.name); !slices.Equal(got, c.want) {
			t.Errorf("All(%q, %q) = %q, want %q", c.l, c.name, got, c.want)
		}
	}
}

// R4: neither is a list written into, nor does an answer share with it.
func TestListsStay(t *testing.T) {
	l := []percent.Pair{{Name: "a b", Value: "+"}, {Name: "a b", Value: "\xff"}, {Name: "c", Value: "%"}}
	was := slices.Clone(l)
	percent.Form(l...)
	percent.Get(l, "a b")
	all := percent.All(l, "a b")
	all[0] = "turned"
	if !slices.Equal(l, was) {
		t.Errorf("the list became %q", l)
	}
	one, _ := percent.Parse("a=b&c=d")
	one[0].Value = "turned"
	if two, _ := percent.Parse("a=b&c=d"); two[0].Value != "b" {
		t.Errorf("an answer turned another: %q", two)
	}
}

// P3.4
func TestMarkedIsUnmarkedToItself(t *testing.T) {
	all := texts("a%24f+ \xc3\xa9", 5)
	all = append(all, bytes(), plain, strings.Repeat("%", 1<<16), strings.Repeat("\xff\x00", 1<<16))
	for _, s := range all {
		if got := percent.Unmark(percent.Mark(s, "")); got != s {
			t.Fatalf("%q is unmarked to %q", s, got)
		}
	}
}

// P3.4: what is marked has plain bytes and marks alone.
func TestMarkedIsPlain(t *testing.T) {
	for _, c := range percent.Mark(bytes(), "") {
		if c != '%' && !strings.ContainsRune(plain, c) {
			t.Errorf("%q stands in what is marked", c)
		}
	}
}

// P3.5
func TestPairsAreParsedOfTheirText(t *testing.T) {
	small := texts("a%4+ &=\xff", 3)
	for i, name := range small {
		if !utf.IsText(name) {
			continue
		}
		var pairs []percent.Pair
		for j := range 5 {
			value := small[(i*7+j*31)%len(small)]
			if utf.IsText(value) {
				pairs = append(pairs, percent.Pair{Name: name, Value: value}, percent.Pair{Name: value, Value: name})
			}
		}
		got, why := percent.Parse(percent.Form(pairs...))
		if why != api.OK || !slices.Equal(got, pairs) {
			t.Fatalf("%q is parsed to %q, %d", pairs, got, why)
		}
	}
}

// P3.5: the edges of how many pairs there are, and signs of all lengths.
func TestPairsAreParsedAtTheEdges(t *testing.T) {
	signs := "\x00\x7f\u0080\u07ff\u0800\ud7ff\ue000\ufffd\uffff\U00010000\U0010ffff"
	for _, pairs := range [][]percent.Pair{
		nil,
		{{}},
		{{}, {}, {}},
		{{Name: signs, Value: signs}},
		slices.Repeat([]percent.Pair{{Name: "a", Value: signs}}, 513),
		slices.Repeat([]percent.Pair{{}}, 513),
		{{Name: strings.Repeat("&=+% ", 1<<14), Value: strings.Repeat("\u20ac", 1<<14)}},
	} {
		got, why := percent.Parse(percent.Form(pairs...))
		if why != api.OK || !slices.Equal(got, pairs) {
			t.Errorf("%d pairs are parsed to %d, %d", len(pairs), len(got), why)
		}
	}
	if got, why := percent.Parse(percent.Form(make([]percent.Pair, 514)...)); len(got) != 0 || why != api.ErrMany {
		t.Errorf("514 pairs are parsed to %d, %d", len(got), why)
	}
}

// P3.6
func TestParsedAreTexts(t *testing.T) {
	for _, s := range texts("\xe2\x82\xac\xff%A=&", 5) {
		pairs, _ := percent.Parse(s)
		for _, p := range pairs {
			if !utf.IsText(p.Name) || !utf.IsText(p.Value) {
				t.Fatalf("Parse(%q) = %q", s, pairs)
			}
		}
	}
	for i := range 256 {
		for j := range 256 {
			s := fmt.Sprintf("%%%02x%%%02x=\xe2%%%02X%%%02X", i, j, i, j)
			pairs, why := percent.Parse(s)
			if why != api.OK || len(pairs) != 1 || !utf.IsText(pairs[0].Name) || !utf.IsText(pairs[0].Value) {
				t.Fatalf("Parse(%q) = %q, %d", s, pairs, why)
			}
		}
	}
}
