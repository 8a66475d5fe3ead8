package json_test

import (
	std "encoding/json"
	"fmt"
	"math/rand"
	"regexp"
	"strings"
	"testing"

	"cringle/api"
	"cringle/json"
)

// P7.2
func TestParse(t *testing.T) {
	for _, c := range []struct {
		in   string
		want api.Val
	}{
		{"null", null()},
		{"true", boole("true")},
		{"false", boole("false")},
		{"0", num("0")},
		{"-0", num("-0")},
		{"1.50e+07", num("1.50e+07")},
		{"1E400", num("1E400")},
		{strings.Repeat("9", 400), num(strings.Repeat("9", 400))},
		{`""`, str("")},
		{`"a b"`, str("a b")},
		{`"\"\\\/\b\t\n\f\r"`, str("\"\\/\b\t\n\f\r")},
		{`"/\u002F\u002f"`, str("///")},
		{`"\u0000\u001f\u007F"`, str("\x00\x1f\x7f")},
		{`"\\u0041"`, str(`\u0041`)},
		{"\"\x7f\u0080\u2028\ufeff\uffff\"", str("\x7f\u0080\u2028\ufeff\uffff")},
		{`"\uD83D\uDE00"`, str("\U0001F600")},
		{`"\ud83d\ude00"`, str("\U0001F600")},
		{`"\ud800\udc00\uDBFF\uDFFF"`, str("\U00010000\U0010FFFF")},
		{`"\uD7FF\uE000\uFFFD"`, str("\uD7FF\uE000\uFFFD")},
		{"[]", list()},
		{"[ \t\r\n]", list()},
		{"[1]", list(num("1"))},
		{" [ 1 ,\tnull\n,\r[ ] ] ", list(num("1"), null(), list())},
		{`{}`, table(nil)},
		{`{"a":[1,"\u00e9"]}`, table([]string{"a"}, list(num("1"), str("\u00e9")))},
		{`{ "b" : 1 , "a" : { } , "" : true }`, table([]string{"b", "a", ""}, num("1"), table(nil), boole("true"))},
		{`{"a":1,"A":{"a":1},"\u00e9":"e","é ":0}`, table([]string{"a", "A", "é", "é "}, num("1"), table([]string{"a"}, num("1")), str("e"), num("0"))},
		{`[{"a":1},{"a":1}]`, list(table([]string{"a"}, num("1")), table([]string{"a"}, num("1")))},
		{`[-1,-0.5,1e-1]`, list(num("-1"), num("-0.5"), num("1e-1"))},
	} {
		if got, f := json.Parse(c.in); f != (api.Fault{}) || !json.Same(got, c.want) {
			t.Errorf("Parse(%q) = %v, %v, want %v", c.in, got, f, c.want)
		}
	}
}

// refused holds that texts have a fault, and nothing beside it.
func refused(t *testing.T, s string, why api.Errno, at int) {
	t.Helper()
	if v, f := json.Parse(s); f != (api.Fault{Why: why, At: at}) || !json.Same(v, api.Val{}) {
		if len(s) > 100 {
			s = s[:50] + " .. " + s[len(s)-50:]
		}
		t.Errorf("Parse(%q) = %v, %v, want {%d %d}", s, v, f, int(why), at)
	}
}

// P7.2
func TestParseWhereTheTextEnds(t *testing.T) {
	for _, s := range []string{
		"", " ", "\t\r\n ", "[", "[ ", "[1", "[1 ", "[1,", "[1, ", "[[]", "[[],", `["a"`,
		"{", "{ ", `{"`, `{"a`, `{"a"`, `{"a" `, `{"a":`, `{"a": `, `{"a":1`, `{"a":1 `, `{"a":1,`, `{"a":1, `, `{"a":{}`,
		`"`, `"a`, `"é`, `"\`, `"\"`, `"\\`, `"\u`, `"\u1`, `"\u12`, `"\u123`, `"\u1234`, `"\uD`, `"\uD8`, `"\uDC0`,
		`"\uD800`, `"\uD800\`, `"\uD800\u`, `"\uD800\uD`, `"\uD800\uDC0`, `"\uD800\uDC00`,
		"t", "tr", "tru", "f", "fa", "fals", "n", "nu", "nul", "[tru", `{"a":nul`,
		"-", "1.", "0.", "-1.", "1e", "1E", "1e+", "1e-", "1.5e", "0e", "[-", "[1.", `{"a":1e`,
	} {
		refused(t, s, api.ErrEnd, len(s))
	}
}

// P7.2
func TestParseFaults(t *testing.T) {
	for _, c := range []struct {
		in  string
		why api.Errno
		at  int
	}{
		// Something else stands where a value must stand.
		{"x", api.ErrForm, 0},
		{" x", api.ErrForm, 1},
		{"]", api.ErrForm, 0},
		{"}", api.ErrForm, 0},
		{",", api.ErrForm, 0},
		{":", api.ErrForm, 0},
		{"'a'", api.ErrForm, 0},
		{"\f1", api.ErrForm, 0},
		{"\v1", api.ErrForm, 0},
		{"\x001", api.ErrForm, 0},
		{"\ufeff1", api.ErrForm, 0},
		{"\u00a01", api.ErrForm, 0},
		{"/**/1", api.ErrForm, 0},
		{"é", api.ErrForm, 0},
		{"[,", api.ErrForm, 1},
		{"[1,]", api.ErrForm, 3},
		{"[1,,2]", api.ErrForm, 3},
		{"[ }", api.ErrForm, 2},
		{`{"a":}`, api.ErrForm, 5},
		{`{"a":,`, api.ErrForm, 5},
		// Something else stands behind one.
		{"[1 2]", api.ErrForm, 3},
		{"[1}", api.ErrForm, 2},
		{"[1:2]", api.ErrForm, 2},
		{"[1\f]", api.ErrForm, 2},
		{`["a""b"]`, api.ErrForm, 4},
		{`{"a":1 "b":2}`, api.ErrForm, 7},
		{`{"a":1]`, api.ErrForm, 6},
		{`{"a":1:`, api.ErrForm, 6},
		// Something else stands where a key must stand, or behind one.
		{"{1", api.ErrForm, 1},
		{"{a", api.ErrForm, 1},
		{"{,", api.ErrForm, 1},
		{"{]", api.ErrForm, 1},
		{"{ :", api.ErrForm, 2},
		{`{"a":1,}`, api.ErrForm, 7},
		{`{"a":1,2`, api.ErrForm, 7},
		{`{"a"}`, api.ErrForm, 4},
		{`{"a",`, api.ErrForm, 4},
		{`{"a" 1`, api.ErrForm, 5},
		{`{"a"="b"}`, api.ErrForm, 4},
		// Words and numbers, at their first bytes.
		{"trux", api.ErrForm, 0},
		{"tr ue", api.ErrForm, 0},
		{"True", api.ErrForm, 0},
		{"TRUE", api.ErrForm, 0},
		{"nil", api.ErrForm, 0},
		{"[true,falsy]", api.ErrForm, 6},
		{"[nul]", api.ErrForm, 1},
		{`{"a": nulL}`, api.ErrForm, 6},
		{"-x", api.ErrForm, 0},
		{"--1", api.ErrForm, 0},
		{"- 1", api.ErrForm, 0},
		{"+1", api.ErrForm, 0},
		{".5", api.ErrForm, 0},
		{"-.5", api.ErrForm, 0},
		{"NaN", api.ErrForm, 0},
		{"Infinity", api.ErrForm, 0},
		{"-Infinity", api.ErrForm, 0},
		{"[10,1.]", api.ErrForm, 4},
		{"[10, 1.e5]", api.ErrForm, 5},
		{"1.x", api.ErrForm, 0},
		{"12ex", api.ErrForm, 0},
		{"12e+ 1", api.ErrForm, 0},
		{`{"a":-}`, api.ErrForm, 5},
		// Within quotes, at the byte.
		{"\"a\nb\"", api.ErrForm, 2},
		{"\"\t\"", api.ErrForm, 1},
		{"\"\x00", api.ErrForm, 1},
		{"\"\x1f\"", api.ErrForm, 1},
		{"{\"a\nb\":1}", api.ErrForm, 3},
		// Within quotes, at the backslash.
		{`"ab\x"`, api.ErrForm, 3},
		{`"\'"`, api.ErrForm, 1},
		{`"\0"`, api.ErrForm, 1},
		{`"\N"`, api.ErrForm, 1},
		{`"\U0041"`, api.ErrForm, 1},
		{`"\é"`, api.ErrForm, 1},
		{"\"\\\n\"", api.ErrForm, 1},
		{`["a","b\a"]`, api.ErrForm, 7},
		{`"a\u"`, api.ErrForm, 2},
		{`"a\u12"`, api.ErrForm, 2},
		{`"a\u123"`, api.ErrForm, 2},
		{`"a\u123g"`, api.ErrForm, 2},
		{`"a\ug`, api.ErrForm, 2},
		{`"\u+123"`, api.ErrForm, 1},
		{`"\u 123"`, api.ErrForm, 1},
		{`"\u12é`, api.ErrForm, 1},
		{`{"\u00":1}`, api.ErrForm, 2},
		// Halves.
		{`"\uD800"`, api.ErrForm, 1},
		{`"a\uDBFF"`, api.ErrForm, 2},
		{`"\uDC00"`, api.ErrForm, 1},
		{`"\uDFFF`, api.ErrForm, 1},
		{`"\uDC00\uD800"`, api.ErrForm, 1},
		{`"\uD800a"`, api.ErrForm, 1},
		{`"\uD800\n"`, api.ErrForm, 1},
		{`"\uD800\x"`, api.ErrForm, 1},
		{`"\uD800\\uDC00"`, api.ErrForm, 1},
		{`"\uD800\u0041"`, api.ErrForm, 1},
		{`"\uD800\uD800\uDC00"`, api.ErrForm, 1},
		{`"\uD800\uDBFF"`, api.ErrForm, 1},
		{`"\uD800\uE000"`, api.ErrForm, 1},
		{`"\uD800\uDCxx"`, api.ErrForm, 1},
		{`"\uD800\uDC00\uDC00"`, api.ErrForm, 13},
		{`"\uD83D\uDE00\uD83D"`, api.ErrForm, 13},
		// Keys.
		{`{"a":1,"a":2}`, api.ErrThere, 7},
		{`{"a":1, "\u0061":2}`, api.ErrThere, 8},
		{`{"":1,"b":2,"":3}`, api.ErrThere, 12},
		{`{"a":1,"a"`, api.ErrThere, 7},
		{`{"a":1,"a"x`, api.ErrThere, 7},
		{`{"a":1,"a`, api.ErrEnd, 9},
		{`{"a":1,"a\x":2}`, api.ErrForm, 9},
		{`[{"a":{"b":1,"c":2,"b":3}}]`, api.ErrThere, 19},
		{`{"a":{"a":1},"a":2}`, api.ErrThere, 13},
		{`{"\uD83D\uDE00":1,"😀":2}`, api.ErrThere, 18},
		// Behind the value.
		{"1 2", api.ErrForm, 2},
		{"1,", api.ErrForm, 1},
		{"1x", api.ErrForm, 1},
		{"01", api.ErrForm, 1},
		{"-01", api.ErrForm, 2},
		{"[01]", api.ErrForm, 2},
		{"1.5.5", api.ErrForm, 3},
		{"0x10", api.ErrForm, 1},
		{"truex", api.ErrForm, 4},
		{"nullnull", api.ErrForm, 4},
		{"[] ]", api.ErrForm, 3},
		{"{}{}", api.ErrForm, 2},
		{`"a" "b"`, api.ErrForm, 4},
		{"1\f", api.ErrForm, 1},
		{"1\x00", api.ErrForm, 1},
		{"1\u00a0", api.ErrForm, 1},
		{"1 //", api.ErrForm, 2},
		// No texts, wherever.
		{"\xff", api.ErrUtf, 0},
		{"[x\xff", api.ErrUtf, 0},
		{"\"a\xc3\"", api.ErrUtf, 0},
		{"1 \xed\xa0\x80", api.ErrUtf, 0},
	} {
		refused(t, c.in, c.why, c.at)
	}
}

// P7.2
func TestParseAtItsLength(t *testing.T) {
	long := strings.Repeat("a", api.MaxDoc)
	if v, f := json.Parse(`"` + long[2:] + `"`); f != (api.Fault{}) || v.Text != long[2:] {
		t.Errorf("Parse of a text of MaxDoc bytes: %v", f)
	}
	if v, f := json.Parse("1" + strings.Repeat(" ", api.MaxDoc-1)); f != (api.Fault{}) || !json.Same(v, num("1")) {
		t.Errorf("Parse of a text of MaxDoc bytes: %v", f)
	}
	refused(t, strings.Repeat(" ", api.MaxDoc), api.ErrEnd, api.MaxDoc)
	refused(t, `"`+long[1:]+`"`, api.ErrMany, 0)
	refused(t, "1"+strings.Repeat(" ", api.MaxDoc), api.ErrMany, 0)
	refused(t, strings.Repeat("x", api.MaxDoc+1), api.ErrMany, 0)
	// What is too long is so ahead of being no text.
	refused(t, strings.Repeat("\xff", api.MaxDoc+1), api.ErrMany, 0)
	refused(t, strings.Repeat("\xff", api.MaxDoc), api.ErrUtf, 0)
}

// P7.2
func TestParseDeep(t *testing.T) {
	const most = api.MaxDeep
	lists := func(deep int, inner string) string {
		return strings.Repeat("[", deep) + inner + strings.Repeat("]", deep)
	}
	tables := func(deep int, inner string) string {
		return strings.Repeat(`{"":`, deep) + inner + strings.Repeat("}", deep)
	}
	for _, s := range []string{
		lists(most, ""), lists(most, "1"), lists(most-1, "{}"), tables(most, "1"), tables(most-1, "[]"),
		lists(most-1, "[],[],[]"), lists(most/2, tables(most/2, "1")),
	} {
		if v, f := json.Parse(s); f != (api.Fault{}) || !json.May(v) {
			t.Errorf("Parse(%q): %v", s, f)
		}
	}
	refused(t, lists(most+1, ""), api.ErrDeep, most)
	refused(t, lists(most, "{"), api.ErrDeep, most)
	refused(t, lists(most, "1, []"), api.ErrDeep, most+3)
	refused(t, tables(most, "{}"), api.ErrDeep, most*4)
	refused(t, tables(most, " ["), api.ErrDeep, most*4+1)
	refused(t, lists(most, "]"), api.ErrForm, 2*most)
	refused(t, strings.Repeat("[", api.MaxDoc), api.ErrDeep, most)
	refused(t, strings.Repeat("[", most), api.ErrEnd, most)
}

// P7.2
func TestParseMany(t *testing.T) {
	// A List of 4095 values is 4096.
	full := "[" + strings.Repeat("1,", maxValues-2)
	for _, s := range []string{full + "1]", full + "[]]", full + "{}]", full + " \"\" ] "} {
		if v, f := json.Parse(s); f != (api.Fault{}) || !json.May(v) {
			t.Errorf("Parse of 4096 values: %v", f)
		}
	}
	full += "1,"
	for _, next := range []string{
		"1]", "null", "t", "x", "-", "01", `"`, `"\x"`, "[", "[]]", "{", `{"a":1}]`, ",", "]", "\f", "é",
	} {
		refused(t, full+next, api.ErrMany, len(full))
		refused(t, full+" \n"+next, api.ErrMany, len(full)+2)
	}
	refused(t, full, api.ErrEnd, len(full))
	refused(t, full+" ", api.ErrEnd, len(full)+1)
	refused(t, full[:len(full)-1]+"x", api.ErrForm, len(full)-1)
	// Keys are no values, and what is in a List counts as what it lies in.
	table := "{"
	for i := range maxValues - 2 {
		table += fmt.Sprintf(`"%d":1,`, i)
	}
	if _, f := json.Parse(table + `"k":1}`); f != (api.Fault{}) {
		t.Errorf("Parse of a Table of 4096 values: %v", f)
	}
	refused(t, table+`"k":[2]}`, api.ErrMany, len(table)+5)
	refused(t, table+`"k":1,"l" : 2}`, api.ErrMany, len(table)+12)
	refused(t, table+`"k":1,"k":2}`, api.ErrThere, len(table)+6)
	refused(t, table+`"k":1,"l"2}`, api.ErrForm, len(table)+9)
	// One that is both too many and too deep is too many.
	deep := strings.Repeat("[", api.MaxDeep) + strings.Repeat("1,", maxValues-api.MaxDeep)
	refused(t, deep+"[", api.ErrMany, len(deep))
	refused(t, strings.TrimSuffix(deep, "1,")+"[", api.ErrDeep, len(deep)-2)
}

// P7.2
func TestParseEachEscape(t *testing.T) {
	for sign := range rune(0x110000) {
		var told string
		switch {
		case 0xD800 <= sign && sign <= 0xDFFF:
			refused(t, fmt.Sprintf(`"\u%04x"`, sign), api.ErrForm, 1)
			continue
		case sign < 0x10000:
			told = fmt.Sprintf(`\u%04x\u%04X`, sign, sign)
		default:
			high, low := 0xD800+(sign-0x10000)>>10, 0xDC00+(sign-0x10000)&0x3FF
			told = fmt.Sprintf(`\u%04x\u%04X\u%04X\u%04x`, high, low, high, low)
		}
		if v, f := json.Parse(`"` + told + `"`); f != (api.Fault{}) || !json.Same(v, str(string([]rune{sign, sign}))) {
			t.Fatalf("Parse(%s) = %q, %v", told, v.Text, f)
		}
	}
}

// P7.2
func TestParseEachByte(t *testing.T) {
	for n := range 128 {
		c := string(rune(n))
		if strings.Contains("\t\n\r ", c) {
			for _, s := range []string{c + "1", "1" + c, "[" + c + "]", "[1" + c + ",1" + c + "]", `{"a"` + c + ":" + c + "1}"} {
				if _, f := json.Parse(s); f != (api.Fault{}) {
					t.Errorf("Parse(%q): %v", s, f)
				}
			}
			continue
		}
		if !strings.Contains(".eE0123456789", c) {
			refused(t, "1"+c, api.ErrForm, 1)
		}
		if !strings.Contains(`"\/bfnrtu`, c) {
			refused(t, `"\`+c+`"`, api.ErrForm, 1)
		}
		if n < 32 {
			refused(t, `"`+c+`"`, api.ErrForm, 1)
		}
	}
}

var (
	unfinishedEscape = regexp.MustCompile(`^(?:[^\\]|\\[^u]|\\u[0-9a-fA-F]{4})*(\\(?:u[0-9a-fA-F]{0,3})?)$`)
	unfinishedPart   = regexp.MustCompile(`(-|-?(0|[1-9][0-9]*)(\.|(\.[0-9]+)?[eE][+-]?)|t(ru?)?|f(a(ls?)?)?|n(ul?)?)$`)
)

// open is whether a text ends within quotes, and what closes all that it leaves open otherwise.
func open(s string) (quoted bool, closers string) {
	for i := 0; i < len(s); i++ {
		switch c := s[i]; {
		case quoted && c == '\\':
			i++
		case c == '"':
			quoted = !quoted
		case quoted:
		case c == '[':
			closers = "]" + closers
		case c == '{':
			closers = "}" + closers
		case (c == ']' || c == '}') && closers != "":
			closers = closers[1:]
		}
	}
	return quoted, closers
}

// goesOn tells whether some text that is good begins with s.
func goesOn(s string) bool {
	_, closers := open(s)
	for _, inner := range []string{"", "0", "00", "000", "0000", "n", "rue", "ue", "e", "alse", "lse", "se", "ull", "ll", "l"} {
		for _, outer := range []string{"", `"`, `":0`, ":0", `"":0`} {
			if std.Valid([]byte(s + inner + outer + closers)) {
				return true
			}
		}
	}
	return false
}

// reach is how many bytes of s some good text begins with. Those of shorter texts are noted, as most begin alike.
func reach(noted map[string]int, s string) int {
	end, is := noted[s]
	if s == "" || is {
		return end
	}
	end = reach(noted, s[:len(s)-1])
	if end == len(s)-1 && goesOn(s) {
		end = len(s)
	}
	noted[s] = end
	return end
}

// faultOf is a text's by the definition: at the first byte with which no good text goes on, or at the first of what that stands in.
func faultOf(noted map[string]int, s string) api.Fault {
	if std.Valid([]byte(s)) {
		return api.Fault{}
	}
	end := reach(noted, s)
	if end == len(s) {
		return api.Fault{Why: api.ErrEnd, At: end}
	}
	unfinished := unfinishedPart
	if quoted, _ := open(s[:end]); quoted {
		unfinished = unfinishedEscape
	}
	if at := unfinished.FindStringSubmatchIndex(s[:end]); at != nil {
		return api.Fault{Why: api.ErrForm, At: at[2]}
	}
	return api.Fault{Why: api.ErrForm, At: end}
}

// many are texts, all short ones of some alphabets, and others of pieces taken by chance.
func many() []string {
	var all []string
	for _, alphabet := range []string{"[]1, ", `{":,}`, `"\un1`, "-0.e5", "tf,[]"} {
		all = append(all, texts(alphabet, 6)...)
	}
	chance := rand.New(rand.NewSource(7))
	pieces := strings.Fields(`[ ] { } , : " \ u a 0 1 - . e + true false null tru nul fals "" "a" "b" {"a":1 \u0041 \n [1,2] {"a":1} 1.5 -0 1e5 é \\`)
	pieces = append(pieces, " ", "\n", "\x00")
	for range 20000 {
		s := ""
		for range 1 + chance.Intn(9) {
			s += pieces[chance.Intn(len(pieces))]
		}
		all = append(all, s)
	}
	return all
}

// bent are good texts with a byte taken out, put in, turned, or cut behind.
func bent() []string {
	var all []string
	for _, s := range []string{`{"a":[1,-2.5e+3,true],"b\u00e9\n":{"":null}, "c":"x"}`, `[ {"x":"\\"} , false ,[[ ]],0]`} {
		for i := range len(s) {
			all = append(all, s[:i], s[:i]+s[i+1:])
			for _, c := range []byte("[]{},:\"\\0-.eE+tn \x01/") {
				all = append(all, s[:i]+string(rune(c))+s[i:], s[:i]+string(rune(c))+s[i+1:])
			}
		}
	}
	return all
}

// P7.2, P7.5
func TestParseIsItsDefinition(t *testing.T) {
	noted := map[string]int{}
	for _, s := range append(many(), bent()...) {
		v, f := json.Parse(s)
		if f.Why == api.OK && !json.May(v) {
			t.Fatalf("what is parsed of %q may not be", s)
		}
		want := faultOf(noted, s)
		// The definition does not know of keys: one that was there comes ahead of what it tells.
		if f.Why == api.ErrThere && s[f.At] == '"' && goesOn(s[:f.At+1]) && (want == api.Fault{} || want.At > f.At) {
			continue
		}
		if f != want {
			t.Fatalf("Parse(%q): %v, want %v", s, f, want)
		}
	}
}

// P7.4
func TestTextIsParsed(t *testing.T) {
	for i, v := range append(good(), some(20000)...) {
		s, why := json.Text(v)
		if why != api.OK {
			t.Fatalf("Text of good value %d: %d", i, why)
		}
		if got, f := json.Parse(s); f != (api.Fault{}) || !json.Same(got, v) {
			t.Fatalf("%q is parsed as %v, %v", s, got, f)
		}
		if !std.Valid([]byte(s)) {
			t.Fatalf("%q is no JSON", s)
		}
	}
}

// P7.4
func TestQuotedIsParsed(t *testing.T) {
	for _, s := range texts("a\"\\\n\x7f\u00e9\xff", 4) {
		if got, f := json.Parse(json.Quote(s)); f != (api.Fault{}) || !json.Same(got, json.Of(s)) {
			t.Fatalf("Quote(%q) is parsed as %v, %v", s, got, f)
		}
	}
}

// P7.6
func TestBlanksAroundTellNothing(t *testing.T) {
	for _, s := range append(many(), bent()...) {
		v, f := json.Parse(s)
		if f.Why != api.OK {
			continue
		}
		for _, blanks := range []string{" ", "\t", "\n", "\r", "\r\n \t "} {
			for _, wider := range []string{blanks + s, s + blanks, blanks + s + blanks} {
				if got, f := json.Parse(wider); f != (api.Fault{}) || !json.Same(got, v) {
					t.Fatalf("Parse(%q) = %v, %v, want %v", wider, got, f, v)
				}
			}
		}
	}
}

// R4: what is answered is the caller's.
func TestParsedIsTheCallersOwn(t *testing.T) {
	const s = `{"a":[1,{"b":2}],"c":{"d":[]}}`
	v, _ := json.Parse(s)
	scribble(v)
	again, _ := json.Parse(s)
	if text, why := json.Text(again); text != s || why != api.OK {
		t.Errorf("after a write: %q, %d", text, why)
	}
}
