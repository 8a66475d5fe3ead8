package refs_test

import (
	"fmt"
	"html"
	"math"
	"math/big"
	"math/rand"
	"regexp"
	"slices"
	"strconv"
	"strings"
	"testing"

	"cringle/refs"
	"cringle/utf"
)

// told are the names with their signs, in the chapter's words.
const told = "amp 26, lt 3C, gt 3E, quot 22, apos 27, nbsp A0, copy A9, reg AE, cent A2, pound A3, yen A5, sect A7, deg B0, plusmn B1, para B6, middot B7, laquo AB, raquo BB, frac12 BD, times D7, divide F7, agrave E0, aacute E1, acirc E2, auml E4, aring E5, aelig E6, ccedil E7, egrave E8, eacute E9, ecirc EA, iacute ED, ntilde F1, oacute F3, ouml F6, oslash F8, uacute FA, uuml FC, szlig DF, Auml C4, Ouml D6, Uuml DC, Eacute C9, ndash 2013, mdash 2014, lsquo 2018, rsquo 2019, ldquo 201C, rdquo 201D, bull 2022, hellip 2026, euro 20AC, trade 2122, larr 2190, rarr 2192, hearts 2665"

// shorts are the names that may stand without a ;.
const shorts = "amp lt gt quot nbsp copy reg"

// windows are Windows-1252's signs from 80 on, in the chapter's words; - where it has none.
const windows = "20AC - 201A 0192 201E 2026 2020 2021 02C6 2030 0160 2039 0152 - 017D - - 2018 2019 201C 201D 2022 2013 2014 02DC 2122 0161 203A 0153 - 017E 0178"

const alnum = "0123456789ABCDEFGHIJKLMNOPQRSTUVWXYZabcdefghijklmnopqrstuvwxyz"

func hex(t *testing.T, s string) rune {
	n, err := strconv.ParseUint(s, 16, 32)
	if err != nil {
		t.Fatal(err)
	}
	return rune(n)
}

// names are the names' signs.
func names(t *testing.T) map[string]rune {
	all := map[string]rune{}
	for _, row := range strings.Split(told, ", ") {
		name, sign, _ := strings.Cut(row, " ")
		all[name] = hex(t, sign)
	}
	if len(all) != 56 {
		t.Fatalf("%d names", len(all))
	}
	return all
}

// numbered is a number's sign, as the chapter words it.
func numbered(t *testing.T, n *big.Int) rune {
	if !n.IsInt64() || n.Int64() > 0x10FFFF || n.Int64() == 0 || n.Int64() >= 0xD800 && n.Int64() <= 0xDFFF {
		return 0xFFFD
	}
	sign := rune(n.Int64())
	if sign >= 0x80 && sign <= 0x9F {
		if other := strings.Fields(windows)[sign-0x80]; other != "-" {
			return hex(t, other)
		}
	}
	return sign
}

// oracle tells references as the chapter words them, by patterns.
type oracle struct {
	*testing.T
	names                   map[string]rune
	decimal, hexed          *regexp.Regexp
	whole, short, shortAttr *regexp.Regexp
}

func newOracle(t *testing.T) *oracle {
	o := &oracle{T: t, names: names(t)}
	var all []string
	for name := range o.names {
		all = append(all, name)
	}
	each, few := "("+strings.Join(all, "|")+")", "("+strings.ReplaceAll(shorts, " ", "|")+")"
	o.decimal = regexp.MustCompile(`^&#([0-9]+);?`)
	o.hexed = regexp.MustCompile(`^&#[xX]([0-9a-fA-F]+);?`)
	o.whole = regexp.MustCompile(`^&` + each + `;`)
	o.short = regexp.MustCompile(`^&` + few)
	o.shortAttr = regexp.MustCompile(`^&` + few + `(?:[^=A-Za-z0-9]|$)`)
	return o
}

func (o *oracle) next(s string, attr bool) (rune, int, bool) {
	for base, form := range map[int]*regexp.Regexp{10: o.decimal, 16: o.hexed} {
		if m := form.FindStringSubmatch(s); m != nil {
			n, _ := new(big.Int).SetString(m[1], base)
			return numbered(o.T, n), len(m[0]), true
		}
	}
	if m := o.whole.FindStringSubmatch(s); m != nil {
		return o.names[m[1]], len(m[0]), true
	}
	form := o.short
	if attr {
		form = o.shortAttr
	}
	if m := form.FindStringSubmatch(s); m != nil {
		return o.names[m[1]], len("&") + len(m[1]), true
	}
	return 0, 0, false
}

func (o *oracle) decode(s string, attr bool) string {
	var out []byte
	for s != "" {
		if sign, size, is := o.next(s, attr); is {
			out = append(out, string(sign)...)
			s = s[size:]
			continue
		}
		out = append(out, s[0])
		s = s[1:]
	}
	return string(out)
}

// check holds Next and Decode against the chapter's words at one text.
func (o *oracle) check(s string) {
	for _, attr := range []bool{false, true} {
		sign, size, is := refs.Next(s, attr)
		if wantSign, wantSize, want := o.next(s, attr); sign != wantSign || size != wantSize || is != want {
			o.Fatalf("Next(%q, %v) = %x, %d, %v, want %x, %d, %v", s, attr, sign, size, is, wantSign, wantSize, want)
		}
		if got, want := refs.Decode(s, attr), o.decode(s, attr); got != want {
			o.Fatalf("Decode(%q, %v) = %q, want %q", s, attr, got, want)
		}
	}
}

// texts calls use at all texts of at most most of the parts.
func texts(most int, use func(string), parts ...string) {
	var on func(string, int)
	on = func(s string, left int) {
		use(s)
		if left == 0 {
			return
		}
		for _, part := range parts {
			on(s+part, left-1)
		}
	}
	on("", most)
}

// byChance are texts of parts taken by chance, but always the same ones.
func byChance(count, most int, parts ...string) []string {
	chance := rand.New(rand.NewSource(11))
	all := make([]string, count)
	for i := range all {
		for range chance.Intn(most + 1) {
			all[i] += parts[chance.Intn(len(parts))]
		}
	}
	return all
}

// pieces are what references are made of, with names cut short, grown, and of other letters, and bytes that are no text.
func pieces(t *testing.T) []string {
	all := []string{"&", "&", "&#", "&#x", "&#X", "#", "x", "X", ";", ";", "=", " ", "\r", "\n", "<", ">", "\"", "'", "0", "9", "a", "f", "g", "G", "Z", "é", "\u00a0", "\xc2", "\xa0", "\xff", "\x00", "\xed\xa0\x80",
		"&#0", "&#128;", "&#x9f", "&#xD800;", "&#x10FFFF", "&#1114112;", "&#4294967296", "&#xFFFFFFFFF;", "&amp=", "&ampx", "&lt;", "&copy1"}
	for name := range names(t) {
		all = append(all, name, "&"+name, "&"+name+";", "&"+strings.ToUpper(name)+";", "&"+name[:len(name)-1]+";", "&"+name+"s;")
	}
	// A map has no order, but the texts by chance are to be the same ones each time.
	slices.Sort(all)
	return all
}

// P11.1
func TestName(t *testing.T) {
	for name, want := range names(t) {
		if got, is := refs.Name(name); got != want || !is {
			t.Errorf("Name(%q) = %x, %v, want %x", name, got, is, want)
		}
		if other := html.UnescapeString("&" + name + ";"); other != string(want) {
			t.Errorf("%q is %q elsewhere", name, other)
		}
	}
}

// P11.1
func TestNoName(t *testing.T) {
	all := names(t)
	check := func(s string) {
		if got, is := refs.Name(s); got != all[s] || is != (all[s] != 0) {
			t.Fatalf("Name(%q) = %x, %v", s, got, is)
		}
	}
	one := strings.Split(alnum, "")
	texts(3, check, one...)
	for name := range all {
		for i := range len(name) + 1 {
			check(name[:i])
			check(name[i:])
			for c := range 256 {
				check(name[:i] + string([]byte{byte(c)}) + name[i:])
				if i < len(name) {
					check(name[:i] + string([]byte{byte(c)}) + name[i+1:])
				}
			}
		}
		for _, s := range []string{"&" + name, name + ";", "&" + name + ";", " " + name, name + name, strings.ToUpper(name), strings.ToUpper(name[:1]) + name[1:], strings.ToLower(name)} {
			check(s)
		}
	}
	for _, s := range []string{"AMP", "Lt", "COPY", "not", "frac14", "Aacute", "#38", "#x26", "\u00e9", "\xff", strings.Repeat("amp", 1<<16)} {
		if got, is := refs.Name(s); got != 0 || is {
			t.Errorf("Name(%.20q) = %x, %v", s, got, is)
		}
	}
}

// P11.1
func TestNumber(t *testing.T) {
	for _, c := range []struct {
		n    uint32
		want rune
	}{
		{0, 0xFFFD}, {1, 1}, {9, 9}, {13, 13}, {0x41, 'A'}, {0x7F, 0x7F},
		{0x80, 0x20AC}, {0x81, 0x81}, {0x82, 0x201A}, {0x83, 0x0192}, {0x8C, 0x0152}, {0x8D, 0x8D}, {0x8E, 0x017D}, {0x8F, 0x8F},
		{0x90, 0x90}, {0x91, 0x2018}, {0x9C, 0x0153}, {0x9D, 0x9D}, {0x9E, 0x017E}, {0x9F, 0x0178}, {0xA0, 0xA0}, {0xFF, 0xFF},
		{0xD7FF, 0xD7FF}, {0xD800, 0xFFFD}, {0xDBFF, 0xFFFD}, {0xDC00, 0xFFFD}, {0xDFFF, 0xFFFD}, {0xE000, 0xE000}, {0xFFFD, 0xFFFD}, {0xFFFE, 0xFFFE}, {0xFFFF, 0xFFFF},
		{0x10000, 0x10000}, {0x10FFFE, 0x10FFFE}, {0x10FFFF, 0x10FFFF}, {0x110000, 0xFFFD}, {1<<31 - 1, 0xFFFD}, {1 << 31, 0xFFFD}, {math.MaxUint32, 0xFFFD},
	} {
		if got := refs.Number(c.n); got != c.want {
			t.Errorf("Number(%x) = %x, want %x", c.n, got, c.want)
		}
	}
}

// P11.1
func TestEachNumber(t *testing.T) {
	for n := uint32(0); n <= 0x120000; n++ {
		got := refs.Number(n)
		if want := numbered(t, big.NewInt(int64(n))); got != want {
			t.Fatalf("Number(%x) = %x, want %x", n, got, want)
		}
		if other := html.UnescapeString("&#" + strconv.Itoa(int(n)) + ";"); other != string(got) {
			t.Fatalf("%x is %q elsewhere", n, other)
		}
	}
}

// P11.1
func TestNextNumber(t *testing.T) {
	for _, c := range []struct {
		s    string
		sign rune
		size int
	}{
		{"&#233;", 0xE9, 6}, {"&#233", 0xE9, 5}, {"&#233;;", 0xE9, 6}, {"&#233x", 0xE9, 5}, {"&#233 ;", 0xE9, 5}, {"&#233&", 0xE9, 5},
		{"&#xe9;", 0xE9, 6}, {"&#XE9;", 0xE9, 6}, {"&#xE9", 0xE9, 5}, {"&#Xe9g", 0xE9, 5}, {"&#x41=", 'A', 5}, {"&#65=", 'A', 4}, {"&#65a", 'A', 4}, {"&#4a;", 4, 3},
		{"&#xaBcD;", 0xABCD, 8}, {"&#xfFfF", 0xFFFF, 7}, {"&#0x41", 0xFFFD, 3}, {"&#x0x41", 0xFFFD, 4},
		{"&#0", 0xFFFD, 3}, {"&#0;", 0xFFFD, 4}, {"&#x0;", 0xFFFD, 5}, {"&#00", 0xFFFD, 4}, {"&#128;", 0x20AC, 6}, {"&#x80;", 0x20AC, 6}, {"&#129;", 0x81, 6}, {"&#x9f", 0x178, 5},
		{"&#xD800;", 0xFFFD, 8}, {"&#55296;", 0xFFFD, 8}, {"&#x10FFFF;", 0x10FFFF, 10}, {"&#x110000;", 0xFFFD, 10}, {"&#1114111", 0x10FFFF, 9}, {"&#1114112", 0xFFFD, 9},
		{"&#4294967295;", 0xFFFD, 13}, {"&#4294967296;", 0xFFFD, 13}, {"&#4294967361;", 0xFFFD, 13}, {"&#x100000041;", 0xFFFD, 13}, {"&#18446744073709551681", 0xFFFD, 22}, {"&#x10000000000000041", 0xFFFD, 20},
		{"&#00000000000000000000065;", 'A', 26}, {"&#x00000000000000000000041", 'A', 26}, {"&#" + strings.Repeat("0", 400) + "38;", '&', 405}, {"&#x" + strings.Repeat("f", 400) + ";", 0xFFFD, 404}, {"&#" + strings.Repeat("9", 400), 0xFFFD, 402},
		{"&#", 0, 0}, {"&#;", 0, 0}, {"&#x", 0, 0}, {"&#X", 0, 0}, {"&#x;", 0, 0}, {"&#xg;", 0, 0}, {"&#a;", 0, 0}, {"&# 1;", 0, 0}, {"&#x 1;", 0, 0}, {"&#-1;", 0, 0}, {"&#+1;", 0, 0}, {"&#xx1;", 0, 0}, {"&##1;", 0, 0},
		{"& #1;", 0, 0}, {"#1;", 0, 0}, {"x&#1;", 0, 0}, {"&#\u0661;", 0, 0}, {"&#\xff;", 0, 0}, {"&x41;", 0, 0}, {"&65;", 0, 0}, {"&#x/", 0, 0}, {"&#x:", 0, 0}, {"&#x@", 0, 0}, {"&#xG", 0, 0}, {"&#x`", 0, 0}, {"&#/", 0, 0}, {"&#:", 0, 0},
	} {
		for _, attr := range []bool{false, true} {
			if sign, size, is := refs.Next(c.s, attr); sign != c.sign || size != c.size || is != (c.size > 0) {
				t.Errorf("Next(%.40q, %v) = %x, %d, %v, want %x, %d", c.s, attr, sign, size, is, c.sign, c.size)
			}
		}
	}
}

// P11.1
func TestNextName(t *testing.T) {
	few := " " + shorts + " "
	for name, want := range names(t) {
		for _, attr := range []bool{false, true} {
			for _, behind := range []string{"", ";", "=", "a", "1", " ", "\u00e9", "\xff"} {
				s := "&" + name + ";" + behind
				if sign, size, is := refs.Next(s, attr); sign != want || size != len(name)+2 || !is {
					t.Errorf("Next(%q, %v) = %x, %d, %v", s, attr, sign, size, is)
				}
			}
			sign, size, is := refs.Next("&"+name, attr)
			if short := strings.Contains(few, " "+name+" "); is != short || is && (sign != want || size != len(name)+1) || !is && (sign != 0 || size != 0) {
				t.Errorf("Next(%q, %v) = %x, %d, %v", "&"+name, attr, sign, size, is)
			}
		}
	}
	for _, s := range []string{"", "&", "&;", "&&", "&&amp;", " &amp;", "amp;", "amp", "a&amp;", "& amp;", "&a", "&am", "&am;", "&AMP;", "&AMP", "&Lt;", "&LT", "&apos", "&apos ", "&euro", "&eacute", "&eacute ;", "&nope;", "&not;", "&é;", "&\xff;", "&=;", "&frac12", "&frac1", "&frac14;", "&hearts", "&hearts:", "&\x00amp;"} {
		for _, attr := range []bool{false, true} {
			if sign, size, is := refs.Next(s, attr); sign != 0 || size != 0 || is {
				t.Errorf("Next(%q, %v) = %x, %d, %v", s, attr, sign, size, is)
			}
		}
	}
}

// P11.1: what stands behind a short name without ; counts in an attribute alone.
func TestNextShortName(t *testing.T) {
	all := names(t)
	for _, name := range strings.Fields(shorts) {
		for c := range 256 {
			if c == ';' {
				continue
			}
			s := "&" + name + string([]byte{byte(c)})
			for _, behind := range []string{"", ";", "=", "x;"} {
				if sign, size, is := refs.Next(s+behind, false); sign != all[name] || size != len(name)+1 || !is {
					t.Errorf("Next(%q, false) = %x, %d, %v", s+behind, sign, size, is)
				}
				none := c == '=' || strings.Contains(alnum, string(rune(c)))
				sign, size, is := refs.Next(s+behind, true)
				if is == none || is && (sign != all[name] || size != len(name)+1) || !is && (sign != 0 || size != 0) {
					t.Errorf("Next(%q, true) = %x, %d, %v", s+behind, sign, size, is)
				}
			}
		}
	}
}

// P11.1, P11.2
func TestAsWorded(t *testing.T) {
	o := newOracle(t)
	texts(6, o.check, "&", "#", "x", "8", "1", ";", "=")
	texts(6, o.check, "&", "l", "t", "g", ";", "=", " ")
	texts(4, o.check, "&", "&#", "&#x", "9", "F", "g", "amp", "lt", ";", "=", "\xc2", "é")
	texts(2, o.check, pieces(t)...)
	for _, s := range byChance(20000, 12, pieces(t)...) {
		o.check(s)
	}
}

// P11.2
func TestDecode(t *testing.T) {
	for _, c := range []struct{ s, text, attr string }{
		{"&lt;&#233;&amp", "<é&", "<é&"},
		{"", "", ""},
		{"&", "&", "&"},
		{"&&&", "&&&", "&&&"},
		{"a & b", "a & b", "a & b"},
		{"&amp;lt;", "&lt;", "&lt;"},
		{"&amp;amp;amp;", "&amp;amp;", "&amp;amp;"},
		{"&#38;lt;", "&lt;", "&lt;"},
		{"&#38#38;", "&#38;", "&#38;"},
		{"&&lt;", "&<", "&<"},
		{"&l&lt;t;", "&l<t;", "&l<t;"},
		{"&#&#65;", "&#A", "&#A"},
		{"&#x&#x41;", "&#xA", "&#xA"},
		{"&ltx&gt=&amp1", "<x>=&1", "&ltx&gt=&amp1"},
		{"/a?b=1&copy=2&reg=3&amp;lt=4", "/a?b=1\u00a9=2\u00ae=3&lt=4", "/a?b=1&copy=2&reg=3&lt=4"},
		{"/a?b&lt&gt;&quot", "/a?b<>\"", "/a?b<>\""},
		{"&copy;&copy &copy-&copy", "\u00a9\u00a9 \u00a9-\u00a9", "\u00a9\u00a9 \u00a9-\u00a9"},
		{"&copyé", "\u00a9é", "\u00a9é"},
		{"caf&eacute;&hellip;&hearts;", "café…♥", "café…♥"},
		{"&eacute", "&eacute", "&eacute"},
		{"&Eacute;&EACUTE;", "É&EACUTE;", "É&EACUTE;"},
		{"1&frac12;2", "1½2", "1½2"},
		{"&#128;&#x97&#129;", "€—\u0081", "€—\u0081"},
		{"&#0;&#xD83D;&#xDE00;&#x1F600;", "\ufffd\ufffd\ufffd\U0001f600", "\ufffd\ufffd\ufffd\U0001f600"},
		{"&#13;&#10;&#9;", "\r\n\t", "\r\n\t"},
		{"\xff&lt;\xc2&#160;\x80", "\xff<\xc2\u00a0\x80", "\xff<\xc2\u00a0\x80"},
		{"\x00&amp;\x00", "\x00&\x00", "\x00&\x00"},
	} {
		if got := refs.Decode(c.s, false); got != c.text {
			t.Errorf("Decode(%q, false) = %q, want %q", c.s, got, c.text)
		}
		if got := refs.Decode(c.s, true); got != c.attr {
			t.Errorf("Decode(%q, true) = %q, want %q", c.s, got, c.attr)
		}
	}
}

// P11.2
func TestEncode(t *testing.T) {
	for _, c := range []struct{ s, text, attr string }{
		{"", "", ""},
		{"plain é €", "plain é €", "plain é €"},
		{"&", "&amp;", "&amp;"},
		{"<", "&lt;", "<"},
		{">", "&gt;", ">"},
		{"\"", "\"", "&quot;"},
		{"'", "'", "'"},
		{"\u00a0", "&nbsp;", "&nbsp;"},
		{"\r", "&#13;", "&#13;"},
		{"\n\t ", "\n\t ", "\n\t "},
		{"\r\n", "&#13;\n", "&#13;\n"},
		{"&amp;", "&amp;amp;", "&amp;amp;"},
		{"<a b=\"c&d\">\u00a0\r</a>", "&lt;a b=\"c&amp;d\"&gt;&nbsp;&#13;&lt;/a&gt;", "<a b=&quot;c&amp;d&quot;>&nbsp;&#13;</a>"},
		{"\u00a1\u0120\u20a0", "\u00a1\u0120\u20a0", "\u00a1\u0120\u20a0"},
		{"\xa0\xc2", "\xa0\xc2", "\xa0\xc2"},
		{"\xc2\xc2\xa0\xa0", "\xc2&nbsp;\xa0", "\xc2&nbsp;\xa0"},
		{"\xe1\xc2\xa0", "\xe1&nbsp;", "\xe1&nbsp;"},
		{"\xff&\xfe<\x00", "\xff&amp;\xfe&lt;\x00", "\xff&amp;\xfe<\x00"},
	} {
		if got := refs.Encode(c.s, false); got != c.text {
			t.Errorf("Encode(%q, false) = %q, want %q", c.s, got, c.text)
		}
		if got := refs.Encode(c.s, true); got != c.attr {
			t.Errorf("Encode(%q, true) = %q, want %q", c.s, got, c.attr)
		}
	}
}

// replaced are what Encode is held against: the chapter's pairs, by whether it is an attribute.
func replaced() map[bool]*strings.Replacer {
	return map[bool]*strings.Replacer{
		false: strings.NewReplacer("&", "&amp;", "<", "&lt;", ">", "&gt;", "\u00a0", "&nbsp;", "\r", "&#13;"),
		true:  strings.NewReplacer("&", "&amp;", "\"", "&quot;", "\u00a0", "&nbsp;", "\r", "&#13;"),
	}
}

// P11.2
func TestEncodeEachSign(t *testing.T) {
	for attr, want := range replaced() {
		for c := range 256 {
			s := string([]byte{byte(c)})
			if got := refs.Encode(s, attr); got != want.Replace(s) {
				t.Errorf("Encode(%q, %v) = %q", s, attr, got)
			}
		}
		for n := rune(0); n <= 0x10FFFF; n++ {
			s := string(n)
			if got := refs.Encode(s, attr); got != want.Replace(s) {
				t.Fatalf("Encode(%q, %v) = %q", s, attr, got)
			}
		}
		texts(4, func(s string) {
			if got := refs.Encode(s, attr); got != want.Replace(s) {
				t.Fatalf("Encode(%q, %v) = %q", s, attr, got)
			}
		}, "&", "<", ">", "\"", "\r", "\n", "\xc2", "\xa0", "amp;", "é", "\xe2")
	}
}

// P11.3: whatever it was encoded as, as each reference has its ;.
func TestEncodedIsDecoded(t *testing.T) {
	check := func(s string) {
		for _, as := range []bool{false, true} {
			encoded := refs.Encode(s, as)
			for _, attr := range []bool{false, true} {
				if got := refs.Decode(encoded, attr); got != s {
					t.Fatalf("Decode(%q, %v) = %q, want %q", encoded, attr, got, s)
				}
			}
		}
	}
	var all []byte
	for n := rune(0); n <= 0x10FFFF; n++ {
		all = append(all, string(n)...)
	}
	check(string(all))
	for c := range 256 {
		for d := range 256 {
			check(string([]byte{byte(c), byte(d)}))
		}
	}
	texts(4, check, "&", "#", "13", ";", "<", ">", "\"", "\r", "\xc2", "\xa0", "=", "lt")
	texts(2, check, pieces(t)...)
	for _, s := range byChance(20000, 12, pieces(t)...) {
		check(s)
	}
}

// P11.4
func TestDecodedTextIsText(t *testing.T) {
	check := func(s string) {
		for _, attr := range []bool{false, true} {
			if got := refs.Decode(s, attr); utf.IsText(s) && !utf.IsText(got) {
				t.Fatalf("Decode(%q, %v) = %q", s, attr, got)
			}
		}
	}
	for n := 0; n <= 0x120000; n++ {
		check(fmt.Sprintf("é&#%d;&#x%x€", n, n))
	}
	for _, n := range []uint64{1<<31 - 1, 1 << 31, 1<<32 - 1, 1 << 32, 1<<32 + 0xC2, 1<<63 + 0xD800, math.MaxUint64} {
		check(fmt.Sprintf("é&#%d;&#x%x€", n, n))
	}
	for _, s := range byChance(20000, 12, pieces(t)...) {
		check(s)
		check(utf.Repair(s))
	}
}

// P11.5
func TestWithoutReferences(t *testing.T) {
	check := func(s string) {
		s = strings.ReplaceAll(s, "&", "")
		for _, attr := range []bool{false, true} {
			if got := refs.Decode(s, attr); got != s {
				t.Fatalf("Decode(%q, %v) = %q", s, attr, got)
			}
		}
	}
	var all []byte
	for n := rune(0); n <= 0x10FFFF; n++ {
		all = append(all, string(n)...)
	}
	check(string(all))
	for _, s := range []string{"", "amp;", "#65;", "#x41", "lt", "<é>", "\u00a0\r", "\x00", "a;b", "\xff\xc2"} {
		check(s)
	}
	for _, s := range byChance(5000, 12, pieces(t)...) {
		check(s)
	}
}

// R1: long texts end, too: none of them is gone through again at each of its signs.
func TestLong(t *testing.T) {
	const many = 1 << 18
	for _, c := range []struct{ part, text, attr string }{
		{"&", "&", "&"},
		{"&a", "&a", "&a"},
		{"&#", "&#", "&#"},
		{"&#x", "&#x", "&#x"},
		{"&amp;", "&", "&"},
		{"&ampa", "&a", "&ampa"},
		{"&#x9", "\t", "\t"},
	} {
		s := strings.Repeat(c.part, many)
		if got := refs.Decode(s, false); got != strings.Repeat(c.text, many) {
			t.Errorf("Decode of many %q: %.20q", c.part, got)
		}
		if got := refs.Decode(s, true); got != strings.Repeat(c.attr, many) {
			t.Errorf("Decode of many %q, as an attribute: %.20q", c.part, got)
		}
		if got := refs.Decode(refs.Encode(s, true), true); got != s {
			t.Errorf("many %q, encoded and decoded: %.20q", c.part, got)
		}
	}
	for _, s := range []string{"&#" + strings.Repeat("9", many), "&#x" + strings.Repeat("F", many), "&#" + strings.Repeat("0", many)} {
		if sign, size, is := refs.Next(s, false); sign != 0xFFFD || size != len(s) || !is {
			t.Errorf("Next(%.10q) = %x, %d, %v", s, sign, size, is)
		}
	}
	if sign, size, is := refs.Next("&"+strings.Repeat("amp", many)+";", true); sign != 0 || size != 0 || is {
		t.Errorf("Next of a long name: %x, %d, %v", sign, size, is)
	}
}
