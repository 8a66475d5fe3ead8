package json_test

import (
	"math"
	"math/rand"
	"reflect"
	"regexp"
	"strconv"
	"strings"
	"testing"

	"cringle/api"
	"cringle/json"
	"cringle/utf"
)

const maxValues = 4096

var numbers = regexp.MustCompile(`^-?(0|[1-9][0-9]*)(\.[0-9]+)?([eE][+-]?[0-9]+)?$`)

// texts are all of an alphabet, up to a size.
func texts(alphabet string, size int) []string {
	all := []string{""}
	from := 0
	for range size {
		to := len(all)
		for _, s := range all[from:to] {
			for i := range len(alphabet) {
				all = append(all, s+alphabet[i:i+1])
			}
		}
		from = to
	}
	return all
}

func null() api.Val             { return api.Val{Kind: api.Null} }
func num(s string) api.Val      { return api.Val{Kind: api.Num, Text: s} }
func str(s string) api.Val      { return api.Val{Kind: api.Str, Text: s} }
func boole(s string) api.Val    { return api.Val{Kind: api.Bool, Text: s} }
func list(l ...api.Val) api.Val { return api.Val{Kind: api.List, Kids: l} }

func table(keys []string, kids ...api.Val) api.Val {
	return api.Val{Kind: api.Table, Keys: keys, Kids: kids}
}

// nested is a value in so many Lists and Tables.
func nested(v api.Val, deep int) api.Val {
	for i := range deep {
		if i%2 == 0 {
			v = list(v)
		} else {
			v = table([]string{"k"}, v)
		}
	}
	return v
}

// wide is a List of so many values in all.
func wide(values int) api.Val {
	v := list()
	for range values - 1 {
		v.Kids = append(v.Kids, null())
	}
	return v
}

// wideTable is a Table of so many values in all.
func wideTable(values int) api.Val {
	v := table(nil)
	for i := range values - 1 {
		v.Keys = append(v.Keys, strconv.Itoa(i))
		v.Kids = append(v.Kids, null())
	}
	return v
}

// chosen is a value taken by chance that may be.
func chosen(chance *rand.Rand, deep int) api.Val {
	nums := []string{"0", "-0", "7", "-120", "1.50", "0.0", "1e5", "2E+07", "-3.1e-9", strings.Repeat("9", 40)}
	signs := []rune{0, 7, 8, 9, 10, 11, 12, 13, 31, ' ', '"', '\\', '/', 'a', 'u', 127, 128, 0xE9, 0x2028, 0xD7FF, 0xE000, 0xFFFD, 0xFFFF, 0x10000, 0x10FFFF}
	text := func() string {
		var s []rune
		for range chance.Intn(5) {
			s = append(s, signs[chance.Intn(len(signs))])
		}
		return string(s)
	}
	kinds := 6
	if deep == 0 {
		kinds = 4
	}
	switch 1 + chance.Intn(kinds) {
	case api.Null:
		return null()
	case api.Bool:
		return boole(strconv.FormatBool(chance.Intn(2) == 0))
	case api.Num:
		return num(nums[chance.Intn(len(nums))])
	case api.Str:
		return str(text())
	case api.List:
		v := list()
		for range chance.Intn(5) {
			v.Kids = append(v.Kids, chosen(chance, deep-1))
		}
		return v
	}
	v := table(nil)
	met := map[string]bool{}
	for range chance.Intn(5) {
		if key := text(); !met[key] {
			met[key] = true
			v.Keys = append(v.Keys, key)
			v.Kids = append(v.Kids, chosen(chance, deep-1))
		}
	}
	return v
}

// some are values taken by chance, but always the same ones.
func some(count int) []api.Val {
	chance := rand.New(rand.NewSource(7))
	var all []api.Val
	for range count {
		all = append(all, chosen(chance, 4))
	}
	return all
}

// good are values that may be.
func good() []api.Val {
	all := []api.Val{
		null(), boole("true"), boole("false"), num("0"), num("-0.0E-00"), num(strings.Repeat("1", 400)),
		str(""), str("a"), str("\x00\x1f\x7f\u0080\U0010FFFF"), str("\"\\/"), str("true"),
		list(), list(null()), list(list(), list(list())), table(nil), table([]string{""}, null()),
		table([]string{"a", "A", "a "}, num("1"), num("1"), table([]string{"a"}, str("a"))),
		{Kind: api.List, Keys: []string{}, Kids: []api.Val{}},
		{Kind: api.Null, Keys: []string{}, Kids: []api.Val{}},
		nested(null(), api.MaxDeep), nested(list(), api.MaxDeep-1), nested(table(nil), api.MaxDeep-1),
		list(nested(null(), api.MaxDeep-1), nested(null(), api.MaxDeep-1)),
		wide(maxValues), wideTable(maxValues), list(wide(maxValues-2), null()),
	}
	return append(all, some(300)...)
}

// bad are values that may not be.
func bad() []api.Val {
	all := []api.Val{
		{}, {Kind: -1}, {Kind: 7}, {Kind: math.MaxInt}, {Kind: math.MinInt}, {Text: "true"},
		{Kind: api.Null, Text: "null"}, {Kind: api.Null, Keys: []string{""}}, {Kind: api.Null, Kids: []api.Val{null()}},
		boole(""), boole("True"), boole("true "), boole("null"), boole("truefalse"),
		{Kind: api.Bool, Text: "true", Kids: []api.Val{null()}}, {Kind: api.Bool, Text: "true", Keys: []string{"a"}},
		num(""), num("-"), num("+1"), num("01"), num("-01"), num("1."), num(".5"), num("1e"), num("1e+"), num("0x1"),
		num(" 1"), num("1 "), num("1_0"), num("NaN"), num("1.2.3"), num("1e1e1"), num("\u0661"), num("\xff"), num("1\x00"),
		{Kind: api.Num, Text: "1", Keys: []string{"a"}}, {Kind: api.Num, Text: "1", Kids: []api.Val{null()}},
		str("\xff"), str("a\xc3"), str("\xed\xa0\x80"), str("\xc0\x80"), str("\xf4\x90\x80\x80"),
		{Kind: api.Str, Text: "a", Keys: []string{"a"}}, {Kind: api.Str, Text: "a", Kids: []api.Val{null()}},
		{Kind: api.List, Text: "a"}, {Kind: api.List, Keys: []string{"a"}}, {Kind: api.List, Keys: []string{"a"}, Kids: []api.Val{null()}},
		list(api.Val{}), list(null(), str("\xff")), list(list(list(num("")))),
		{Kind: api.Table, Text: "a"}, table([]string{"a"}), table(nil, null()), table([]string{"a", "b"}, null()),
		table([]string{"a"}, null(), null()), table([]string{"a", "a"}, null(), null()), table([]string{"", "b", ""}, null(), null(), null()),
		table([]string{"\xff"}, null()), table([]string{"a"}, api.Val{}), table([]string{"a"}, table([]string{"b", "b"}, null(), null())),
		nested(null(), api.MaxDeep+1), nested(list(), api.MaxDeep), nested(table(nil), api.MaxDeep), nested(list(), 2000),
		list(null(), nested(null(), api.MaxDeep)),
		wide(maxValues + 1), wideTable(maxValues + 1), list(wide(maxValues-1), null()), list(null(), wide(maxValues-1)), wide(100000),
	}
	// Lists that are shared tell 2^64 values.
	shared := null()
	for range api.MaxDeep {
		shared = list(shared, shared)
	}
	return append(all, shared)
}

// P7.1
func TestMay(t *testing.T) {
	for i, v := range good() {
		if !json.May(v) {
			t.Errorf("good value %d may not be", i)
		}
	}
	for i, v := range bad() {
		if json.May(v) {
			t.Errorf("bad value %d may be", i)
		}
	}
}

// P7.1
func TestBadValuesHaveNoText(t *testing.T) {
	for i, v := range bad() {
		if s, why := json.Text(v); s != "" || why != api.ErrArg {
			t.Errorf("Text of bad value %d = %q, %d", i, s, why)
		}
	}
	// What may not be is told ahead of what is too long.
	if s, why := json.Text(list(str(strings.Repeat("a", api.MaxDoc)), api.Val{})); s != "" || why != api.ErrArg {
		t.Errorf("Text of a long bad value = %q, %d", s, why)
	}
}

// P7.1, P7.2
func TestNumbers(t *testing.T) {
	for _, s := range texts("-+.eE019", 6) {
		is := numbers.MatchString(s)
		if got := json.May(num(s)); got != is {
			t.Fatalf("May of the Num %q = %v", s, got)
		}
		if v, f := json.Parse(s); is && (f != api.Fault{} || !json.Same(v, num(s))) || !is && f.Why == api.OK {
			t.Fatalf("Parse(%q) = %v, %v", s, v, f)
		}
	}
}

// P7.1
func TestText(t *testing.T) {
	for _, c := range []struct {
		v    api.Val
		want string
	}{
		{null(), "null"},
		{boole("true"), "true"},
		{boole("false"), "false"},
		{num("-1.50e+07"), "-1.50e+07"},
		{str(""), `""`},
		{str("a\"b\\c/d\u00e9\n\x01\x7f"), `"a\"b\\c/dé\n\u0001\u007f"`},
		{list(), "[]"},
		{list(null()), "[null]"},
		{list(num("1"), str("1"), list(num("2"), boole("true"))), `[1,"1",[2,true]]`},
		{table(nil), "{}"},
		{table([]string{"b", "a"}, num("1"), list()), `{"b":1,"a":[]}`},
		{table([]string{"", "\t\""}, table([]string{"x"}, null()), str("y")), `{"":{"x":null},"\t\"":"y"}`},
	} {
		if got, why := json.Text(c.v); got != c.want || why != api.OK {
			t.Errorf("Text(%v) = %q, %d, want %q", c.v, got, why, c.want)
		}
	}
}

// P7.1
func TestTextAtItsLength(t *testing.T) {
	long := strings.Repeat("9", api.MaxDoc)
	for _, c := range []struct {
		name string
		v    api.Val
		size int
	}{
		{"num", num(long), api.MaxDoc},
		{"num, longer", num(long + "9"), 0},
		{"str", str(long[2:]), api.MaxDoc},
		{"str, longer", str(long[1:]), 0},
		{"str, much longer", str(strings.Repeat(long, 100)), 0},
		{"escapes", str(strings.Repeat("\x00", 10922)), 65534},
		{"escapes, longer", str(strings.Repeat("\x00", 10923)), 0},
		{"two escapes at the end", str(long[:api.MaxDoc-6] + `""`), api.MaxDoc},
		{"two escapes at the end, longer", str(long[:api.MaxDoc-5] + `""`), 0},
		{"list", list(num(long[2:])), api.MaxDoc},
		{"list, longer", list(num(long[1:])), 0},
		{"list of two", list(num("1"), str(long[6:])), api.MaxDoc},
		{"list of two, longer", list(num("1"), str(long[5:])), 0},
		{"null at the end", list(num(long[7:]), null()), api.MaxDoc},
		{"null at the end, longer", list(num(long[6:]), null()), 0},
		{"key", table([]string{long[6:]}, num("1")), api.MaxDoc},
		{"key, longer", table([]string{long[5:]}, num("1")), 0},
		{"late", list(str(long[2:]), null()), 0},
	} {
		s, why := json.Text(c.v)
		if len(s) != c.size || (why == api.OK) != (c.size > 0) || why != api.OK && why != api.ErrMany {
			t.Errorf("%s: Text has %d bytes, %d, want %d", c.name, len(s), why, c.size)
		}
	}
}

// P7.1
func TestTextOfManyLongTextsEnds(t *testing.T) {
	long := strings.Repeat("\x01", api.MaxDoc)
	v := table(nil)
	for i := range maxValues - 1 {
		v.Keys = append(v.Keys, strconv.Itoa(i)+long)
		v.Kids = append(v.Kids, str(long))
	}
	if s, why := json.Text(v); s != "" || why != api.ErrMany {
		t.Errorf("Text has %d bytes, %d", len(s), why)
	}
}

// P7.1
func TestQuote(t *testing.T) {
	for _, c := range []struct{ in, want string }{
		{"", `""`},
		{"a", `"a"`},
		{`"`, `"\""`},
		{`\`, `"\\"`},
		{`\n`, `"\\n"`},
		{"/", `"/"`},
		{"<&>'", `"<&>'"`},
		{"\b\t\n\f\r", `"\b\t\n\f\r"`},
		{"\x00\x0b\x1f", `"\u0000\u000b\u001f"`},
		{" ~\x7f\u0080", "\" ~\\u007f\u0080\""},
		{"\u2028\u2029\ufeff\U0001F600", "\"\u2028\u2029\ufeff\U0001F600\""},
		{"\xff", "\"\uFFFD\""},
		{"\xe2\x82\"", "\"\uFFFD\\\"\""},
		{"\xed\xa0\x80", "\"\uFFFD\uFFFD\uFFFD\""},
		{strings.Repeat("\x01", 20000), `"` + strings.Repeat(`\u0001`, 20000) + `"`},
	} {
		if got := json.Quote(c.in); got != c.want {
			t.Errorf("Quote(%q) = %q, want %q", c.in, got, c.want)
		}
	}
}

// P7.1
func TestQuoteEachSign(t *testing.T) {
	own := map[rune]string{'"': `\"`, '\\': `\\`, 8: `\b`, 9: `\t`, 10: `\n`, 12: `\f`, 13: `\r`}
	for sign := range rune(0x110000) {
		if 0xD800 <= sign && sign <= 0xDFFF {
			continue
		}
		want := string(sign)
		if told := own[sign]; told != "" {
			want = told
		} else if sign < 32 || sign == 127 {
			hex := strconv.FormatInt(int64(sign), 16)
			want = `\u` + strings.Repeat("0", 4-len(hex)) + hex
		}
		if got := json.Quote(string(sign)); got != `"`+want+`"` {
			t.Fatalf("Quote of %x = %q", sign, got)
		}
	}
}

// P7.1
func TestSame(t *testing.T) {
	different := []api.Val{
		{}, null(), boole("true"), boole("false"), num("1"), num("1.0"), num("10e-1"), str("1"), str(""), str("true"),
		list(), list(null()), list(null(), null()), list(list()), list(num("1"), num("2")), list(num("2"), num("1")),
		table(nil), table([]string{"a"}, num("1")), table([]string{"b"}, num("1")), table([]string{"a"}, num("2")),
		table([]string{"a", "b"}, num("1"), num("2")), table([]string{"b", "a"}, num("2"), num("1")),
		table([]string{"a", "b"}, num("1"), num("2"), num("3")), table([]string{"a", "b", "c"}, num("1"), num("2")),
		table([]string{"a"}, table([]string{"a"}, num("1"))), table([]string{"a"}, table([]string{"a"}, num("2"))),
		{Kind: 9}, {Kind: 9, Text: "x"}, {Kind: api.List, Text: "x"}, str("\xff"), str("\ufffd"), nested(null(), 3000), nested(num("0"), 3000),
	}
	for i, a := range different {
		for j, b := range different {
			if got := json.Same(a, b); got != (i == j) {
				t.Errorf("Same of %d and %d = %v", i, j, got)
			}
		}
	}
	// No list and an empty one are the same.
	empty := api.Val{Kind: api.List, Keys: []string{}, Kids: []api.Val{}}
	if !json.Same(list(), empty) || !json.Same(list(empty), list(list())) {
		t.Error("no kids are other than none")
	}
}

// P7.3
func TestGet(t *testing.T) {
	inner := table([]string{"x", "", "y"}, num("1"), null(), list(num("2")))
	v := table([]string{"a", "b", "c", "d"}, inner, list(inner), str("a"), table(nil))
	for _, c := range []struct {
		v    api.Val
		keys []string
		want api.Val
		is   bool
	}{
		{v, nil, v, true},
		{v, []string{}, v, true},
		{null(), nil, null(), true},
		{v, []string{"a"}, inner, true},
		{v, []string{"a", "x"}, num("1"), true},
		{v, []string{"a", ""}, null(), true},
		{v, []string{"a", "y"}, list(num("2")), true},
		{v, []string{"c"}, str("a"), true},
		{v, []string{"d"}, table(nil), true},
		{v, []string{"x"}, api.Val{}, false},
		{v, []string{""}, api.Val{}, false},
		{v, []string{"A"}, api.Val{}, false},
		{v, []string{"a", "a"}, api.Val{}, false},
		{v, []string{"a", "x", "x"}, api.Val{}, false},
		{v, []string{"b", "x"}, api.Val{}, false},
		{v, []string{"b", "0"}, api.Val{}, false},
		{v, []string{"c", "a"}, api.Val{}, false},
		{v, []string{"d", ""}, api.Val{}, false},
		{v, []string{"\xff"}, api.Val{}, false},
		{list(v), []string{"a"}, api.Val{}, false},
		{api.Val{}, []string{"a"}, api.Val{}, false},
		{api.Val{Kind: api.List, Keys: []string{"a"}, Kids: []api.Val{null()}}, []string{"a"}, api.Val{}, false},
		{table([]string{"a"}), []string{"a"}, api.Val{}, false},
		{table([]string{"a", "b"}, num("1")), []string{"a"}, num("1"), true},
		{table([]string{"a", "b"}, num("1")), []string{"b"}, api.Val{}, false},
	} {
		got, is := json.Get(c.v, c.keys...)
		if is != c.is || !json.Same(got, c.want) {
			t.Errorf("Get(%v, %q) = %v, %v, want %v, %v", c.v, c.keys, got, is, c.want, c.is)
		}
	}
}

// P7.3
func TestMakers(t *testing.T) {
	for _, c := range []struct {
		name      string
		got, want api.Val
	}{
		{"Of", json.Of("a\""), str("a\"")},
		{"Of nothing", json.Of(""), str("")},
		{"Of no text", json.Of("a\xe2\x82b\xff"), str("a\uFFFDb\uFFFD")},
		{"Ints", json.Ints(0), num("0")},
		{"Ints below 0", json.Ints(-7), num("-7")},
		{"Ints, greatest", json.Ints(math.MaxInt64), num("9223372036854775807")},
		{"Ints, least", json.Ints(math.MinInt64), num("-9223372036854775808")},
		{"Bools", json.Bools(true), boole("true")},
		{"Bools", json.Bools(false), boole("false")},
		{"Lists of none", json.Lists(), list()},
		{"Lists", json.Lists(num("1"), null(), list(num("1"))), list(num("1"), null(), list(num("1")))},
		{"Lists of bad ones", json.Lists(api.Val{}, str("\xff")), list(api.Val{}, str("\xff"))},
		{"Tables of none", json.Tables(), table(nil)},
		{"Tables", json.Tables(json.Pair{Key: "b", Val: num("1")}, json.Pair{Key: "a", Val: list()}), table([]string{"b", "a"}, num("1"), list())},
		{
			"Tables of one key",
			json.Tables(json.Pair{Key: "a", Val: num("1")}, json.Pair{Val: num("2")}, json.Pair{Key: "a", Val: num("3")}, json.Pair{Val: num("4")}, json.Pair{Key: "b"}),
			table([]string{"a", "", "b"}, num("1"), num("2"), api.Val{}),
		},
		{
			"Tables of keys that are repaired to one",
			json.Tables(json.Pair{Key: "\xff", Val: num("1")}, json.Pair{Key: "\xfe", Val: num("2")}, json.Pair{Key: "\uFFFD", Val: num("3")}, json.Pair{Key: "\xff\xff", Val: num("4")}),
			table([]string{"\uFFFD", "\uFFFD\uFFFD"}, num("1"), num("4")),
		},
	} {
		if !json.Same(c.got, c.want) {
			t.Errorf("%s: %v, want %v", c.name, c.got, c.want)
		}
	}
}

// P7.3
func TestMadeMayBe(t *testing.T) {
	for _, s := range append(texts("a\xff\"\x00", 4), "\xed\xa0\x80") {
		v := json.Tables(json.Pair{Key: s, Val: json.Of(s)}, json.Pair{Key: utf.Repair(s), Val: json.Ints(-1)}, json.Pair{Key: "x", Val: json.Lists(json.Bools(true))})
		if !json.May(v) {
			t.Fatalf("what is made of %q may not be", s)
		}
	}
}

// scribble writes into all lists of a value.
func scribble(v api.Val) {
	for i := range v.Keys {
		v.Keys[i] += "!"
	}
	for i := range v.Kids {
		scribble(v.Kids[i])
		v.Kids[i].Text += "!"
	}
	_ = append(v.Keys, "!")
	_ = append(v.Kids, str("!"))
}

// R4: what is answered is the caller's, and what is handed in is not kept.
func TestListsAreTheCallersOwn(t *testing.T) {
	fresh := func() api.Val {
		return table([]string{"a", "b"}, list(num("1"), list(num("2"))), table([]string{"c"}, list(null())))
	}
	for _, c := range []struct {
		name string
		call func(api.Val) api.Val
	}{
		{"Get nothing", func(v api.Val) api.Val { got, _ := json.Get(v); return got }},
		{"Get", func(v api.Val) api.Val { got, _ := json.Get(v, "a"); return got }},
		{"Get twice", func(v api.Val) api.Val { got, _ := json.Get(v, "b", "c"); return got }},
		{"Lists", func(v api.Val) api.Val { return json.Lists(v, v) }},
		{"Lists of a list", func(v api.Val) api.Val { return json.Lists(v.Kids...) }},
		{"Tables", func(v api.Val) api.Val { return json.Tables(json.Pair{Key: "x", Val: v}, json.Pair{Key: "y", Val: v}) }},
	} {
		v := fresh()
		before := c.call(fresh())
		got := c.call(v)
		scribble(got)
		if !reflect.DeepEqual(v, fresh()) {
			t.Errorf("%s: a write into the answer turned what was handed in: %v", c.name, v)
		}
		got = c.call(v)
		scribble(v)
		if !json.Same(got, before) {
			t.Errorf("%s: a write into what was handed in turned the answer: %v", c.name, got)
		}
	}
	one := fresh().Kids[0]
	both := json.Lists(one, one)
	scribble(both.Kids[0])
	if !json.Same(both.Kids[1], fresh().Kids[0]) {
		t.Error("kids of one answer share a list")
	}
}
