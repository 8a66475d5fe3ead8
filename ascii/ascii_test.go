package ascii_test

import (
	"math"
	"slices"
	"strconv"
	"strings"
	"testing"

	"cringle/api"
	"cringle/ascii"
)

// allBytes is each byte once, so that a call is seen at bytes that are no UTF-8 too.
func allBytes() string {
	b := make([]byte, 256)
	for i := range b {
		b[i] = byte(i)
	}
	return string(b)
}

// texts are all texts of at most size bytes of the alphabet.
func texts(alphabet string, size int) []string {
	all := []string{""}
	for from := 0; size > 0; size-- {
		to := len(all)
		for _, s := range all[from:to] {
			for i := range len(alphabet) {
				all = append(all, s+alphabet[i:i+1])
			}
		}
		from = to
	}
	return all
}

// P1.1
func TestKindsOfBytes(t *testing.T) {
	const digits = "0123456789"
	const letters = "ABCDEFGHIJKLMNOPQRSTUVWXYZabcdefghijklmnopqrstuvwxyz"
	blanks := string([]byte{9, 10, 12, 13, 32})
	for n := range 256 {
		c := byte(n)
		if got, want := ascii.IsBlank(c), strings.IndexByte(blanks, c) >= 0; got != want {
			t.Errorf("IsBlank(%d) = %v", c, got)
		}
		if got, want := ascii.IsDigit(c), strings.IndexByte(digits, c) >= 0; got != want {
			t.Errorf("IsDigit(%d) = %v", c, got)
		}
		if got, want := ascii.IsLetter(c), strings.IndexByte(letters, c) >= 0; got != want {
			t.Errorf("IsLetter(%d) = %v", c, got)
		}
	}
}

// P1.1
func TestLower(t *testing.T) {
	all := allBytes()
	want := all[:'A'] + "abcdefghijklmnopqrstuvwxyz" + all['Z'+1:]
	if got := ascii.Lower(all); got != want {
		t.Errorf("Lower of all bytes: %q", got)
	}
	for _, c := range []struct{ in, want string }{
		{"", ""},
		{"HTTP", "http"},
		{"aZ09-@[`{", "az09-@[`{"},
		{"\u00c4\u0130\u212a", "\u00c4\u0130\u212a"},
		{"A\xffB\x80", "a\xffb\x80"},
	} {
		if got := ascii.Lower(c.in); got != c.want {
			t.Errorf("Lower(%q) = %q, want %q", c.in, got, c.want)
		}
	}
}

// P1.1
func TestSame(t *testing.T) {
	for _, c := range []struct {
		a, b string
		want bool
	}{
		{"", "", true},
		{"Content-Type", "cONTENT-tYPE", true},
		{"a", "ab", false},
		{"ab", "a", false},
		{"", "a", false},
		{"ab", "ac", false},
		{"bb", "ab", false},
		{"@", "`", false},
		{"[", "{", false},
		{"\u00e4", "\u00c4", false},
		{"k", "\u212a", false},
		{"\xff", "\xfe", false},
		{"A\xff", "a\xff", true},
	} {
		if got := ascii.Same(c.a, c.b); got != c.want {
			t.Errorf("Same(%q, %q) = %v", c.a, c.b, got)
		}
	}
	for x := range 256 {
		for y := range 256 {
			a, b := string([]byte{byte(x)}), string([]byte{byte(y)})
			if got, want := ascii.Same(a, b), ascii.Lower(a) == ascii.Lower(b); got != want {
				t.Errorf("Same(%q, %q) = %v", a, b, got)
			}
		}
	}
}

// P1.1
func TestTrim(t *testing.T) {
	for _, c := range []struct{ in, want string }{
		{"", ""},
		{" ", ""},
		{"\t\n\f\r ", ""},
		{"a", "a"},
		{"\t\n\f\r a \t b \r\f\n\t", "a \t b"},
		{" a", "a"},
		{"a ", "a"},
		{"\va\v", "\va\v"},
		{"\x00 \x00", "\x00 \x00"},
		{"\u00a0a\u0085", "\u00a0a\u0085"},
		{" \xff\xa0 ", "\xff\xa0"},
	} {
		if got := ascii.Trim(c.in); got != c.want {
			t.Errorf("Trim(%q) = %q, want %q", c.in, got, c.want)
		}
	}
}

// P1.1
func TestWordsAndSqueeze(t *testing.T) {
	for _, c := range []struct {
		in    string
		words []string
	}{
		{"", nil},
		{" \t\n\f\r", nil},
		{"a", []string{"a"}},
		{" a  b", []string{"a", "b"}},
		{"a b ", []string{"a", "b"}},
		{"b\ta\nb\fa\rc", []string{"b", "a", "b", "a", "c"}},
		{"h-card\r\n\r\nvcard", []string{"h-card", "vcard"}},
		{"a\vb\u00a0c\u2003d", []string{"a\vb\u00a0c\u2003d"}},
		{"\xff \x80", []string{"\xff", "\x80"}},
	} {
		if got := ascii.Words(c.in); !slices.Equal(got, c.words) {
			t.Errorf("Words(%q) = %q, want %q", c.in, got, c.words)
		}
		if got, want := ascii.Squeeze(c.in), strings.Join(c.words, " "); got != want {
			t.Errorf("Squeeze(%q) = %q, want %q", c.in, got, want)
		}
	}
}

// P1.1
func TestWordsAreWhatStandsBetweenBlanks(t *testing.T) {
	isBlank := func(r rune) bool { return r < 128 && ascii.IsBlank(byte(r)) }
	for _, s := range texts("aB \t\n", 6) {
		if got, want := ascii.Words(s), strings.FieldsFunc(s, isBlank); !slices.Equal(got, want) {
			t.Fatalf("Words(%q) = %q, want %q", s, got, want)
		}
		if got, want := ascii.Trim(s), strings.TrimFunc(s, isBlank); got != want {
			t.Fatalf("Trim(%q) = %q, want %q", s, got, want)
		}
	}
}

// R4: what is answered is the caller's.
func TestListsAreTheCallersOwn(t *testing.T) {
	const s = "a b c"
	for _, call := range []func() []string{
		func() []string { return ascii.Words(s) },
		func() []string { return ascii.Split(s, ' ') },
	} {
		first := call()
		first[0] = "x"
		if again := call(); !slices.Equal(again, []string{"a", "b", "c"}) {
			t.Errorf("after a write: %q", again)
		}
	}
	parts := []string{"a", "b"}
	if got := ascii.Join("-", parts...); got != "a-b" || !slices.Equal(parts, []string{"a", "b"}) {
		t.Errorf("Join = %q, parts are %q", got, parts)
	}
}

// P1.2
func TestNumber(t *testing.T) {
	const top = math.MaxInt64
	long := strings.Repeat("9", 400)
	for _, c := range []struct {
		in   string
		most int64
		want int64
		why  api.Errno
	}{
		{"0", 0, 0, api.OK},
		{"0", top, 0, api.OK},
		{"7", 7, 7, api.OK},
		{"8", 7, 0, api.ErrMany},
		{"65535", 65535, 65535, api.OK},
		{"65536", 65535, 0, api.ErrMany},
		{"100", 99, 0, api.ErrMany},
		{"99", 100, 99, api.OK},
		{"5", 3, 0, api.ErrMany},
		{"007", 7, 7, api.OK},
		{strings.Repeat("0", 400) + "42", 42, 42, api.OK},
		{"9223372036854775807", top, top, api.OK},
		{"9223372036854775808", top, 0, api.ErrMany},
		{"9223372036854775807", top - 1, 0, api.ErrMany},
		{"18446744073709551616", top, 0, api.ErrMany},
		{"18446744073709551617", 5, 0, api.ErrMany},
		{long, top, 0, api.ErrMany},
		{"0", -1, 0, api.ErrMany},
		{"0", math.MinInt64, 0, api.ErrMany},
		{"", 9, 0, api.ErrForm},
		{"", -1, 0, api.ErrForm},
		{"-1", 9, 0, api.ErrForm},
		{"+1", 9, 0, api.ErrForm},
		{" 1", 9, 0, api.ErrForm},
		{"1 ", 9, 0, api.ErrForm},
		{"1_0", 99, 0, api.ErrForm},
		{"0x1", 99, 0, api.ErrForm},
		{"1.0", 99, 0, api.ErrForm},
		{"1e2", 999, 0, api.ErrForm},
		{"/", 9, 0, api.ErrForm},
		{":", 9, 0, api.ErrForm},
		{"\u0663", 9, 0, api.ErrForm},
		{"\xff", 9, 0, api.ErrForm},
		{"99a", 9, 0, api.ErrForm},
		{long + "a", top, 0, api.ErrForm},
		{"a", -1, 0, api.ErrForm},
	} {
		if got, why := ascii.Number(c.in, c.most); got != c.want || why != c.why {
			t.Errorf("Number(%q, %d) = %d, %d, want %d, %d", c.in, c.most, got, why, c.want, c.why)
		}
	}
}

// P1.2
func TestNumberAtEachBound(t *testing.T) {
	for most := range int64(125) {
		for n := range int64(125) {
			got, why := ascii.Number(strconv.FormatInt(n, 10), most)
			if n <= most && (got != n || why != api.OK) || n > most && (got != 0 || why != api.ErrMany) {
				t.Fatalf("Number of %d, most %d = %d, %d", n, most, got, why)
			}
		}
	}
}

// P1.2
func TestText(t *testing.T) {
	for _, c := range []struct {
		n    int64
		want string
	}{
		{0, "0"},
		{7, "7"},
		{-7, "-7"},
		{10, "10"},
		{-100, "-100"},
		{math.MaxInt64, "9223372036854775807"},
		{math.MinInt64, "-9223372036854775808"},
	} {
		if got := ascii.Text(c.n); got != c.want {
			t.Errorf("Text(%d) = %q, want %q", c.n, got, c.want)
		}
	}
}

// P1.2
func TestPad(t *testing.T) {
	for _, c := range []struct {
		n    int64
		size int
		want string
	}{
		{-7, 3, "-007"},
		{7, 3, "007"},
		{0, 2, "00"},
		{0, 1, "0"},
		{0, 0, "0"},
		{0, -1, "0"},
		{7, math.MinInt, "7"},
		{-7, 1, "-7"},
		{-7, 2, "-07"},
		{1234, 3, "1234"},
		{1234, 4, "1234"},
		{1234, 5, "01234"},
		{1, 19, "0000000000000000001"},
		{1, 20, "00000000000000000001"},
		{1, 21, "00000000000000000001"},
		{-1, math.MaxInt, "-00000000000000000001"},
		{math.MaxInt64, 20, "09223372036854775807"},
		{math.MinInt64, 3, "-9223372036854775808"},
		{math.MinInt64, 99, "-09223372036854775808"},
	} {
		if got := ascii.Pad(c.n, c.size); got != c.want {
			t.Errorf("Pad(%d, %d) = %q, want %q", c.n, c.size, got, c.want)
		}
	}
}

// P1.2
func TestHex(t *testing.T) {
	for _, c := range []struct {
		in   string
		want uint32
		why  api.Errno
	}{
		{"0", 0, api.OK},
		{"9", 9, api.OK},
		{"a", 10, api.OK},
		{"F", 15, api.OK},
		{"10", 16, api.OK},
		{"1aF", 0x1af, api.OK},
		{"0123456", 0x123456, api.OK},
		{"789abcde", 0x789abcde, api.OK},
		{"FEDCBA", 0xfedcba, api.OK},
		{"ffffffff", math.MaxUint32, api.OK},
		{"00000000000000000ffffffff", math.MaxUint32, api.OK},
		{"100000000", 0, api.ErrMany},
		{"fffffffff", 0, api.ErrMany},
		{"10000000000000001", 0, api.ErrMany},
		{strings.Repeat("f", 400), 0, api.ErrMany},
		{"", 0, api.ErrForm},
		{"g", 0, api.ErrForm},
		{"G", 0, api.ErrForm},
		{"@", 0, api.ErrForm},
		{"`", 0, api.ErrForm},
		{"/", 0, api.ErrForm},
		{":", 0, api.ErrForm},
		{"0x1", 0, api.ErrForm},
		{"-1", 0, api.ErrForm},
		{" 1", 0, api.ErrForm},
		{"1 ", 0, api.ErrForm},
		{"\xff", 0, api.ErrForm},
		{strings.Repeat("f", 400) + "g", 0, api.ErrForm},
	} {
		if got, why := ascii.Hex(c.in); got != c.want || why != c.why {
			t.Errorf("Hex(%q) = %#x, %d, want %#x, %d", c.in, got, why, c.want, c.why)
		}
	}
}

// P1.2
func TestHexDigits(t *testing.T) {
	const small, great = "0123456789abcdef", "0123456789ABCDEF"
	for n := range 256 {
		c := byte(n)
		at := max(strings.IndexByte(small, c), strings.IndexByte(great, c))
		want, fault := uint32(max(at, 0)), api.OK
		if at < 0 {
			fault = api.ErrForm
		}
		if got, why := ascii.Hex(string([]byte{c})); got != want || why != fault {
			t.Errorf("Hex of byte %d = %d, %d, want %d, %d", c, got, why, want, fault)
		}
	}
}

// P1.3
func TestJoin(t *testing.T) {
	for _, c := range []struct {
		sep   string
		parts []string
		want  string
	}{
		{",", nil, ""},
		{",", []string{}, ""},
		{",", []string{""}, ""},
		{",", []string{"a"}, "a"},
		{",", []string{"a", "b"}, "a,b"},
		{",", []string{"", "", ""}, ",,"},
		{"", []string{"a", "", "b"}, "ab"},
		{", ", []string{"b", "a", "b"}, "b, a, b"},
		{"\xff", []string{"\x80", ","}, "\x80\xff,"},
	} {
		if got := ascii.Join(c.sep, c.parts...); got != c.want {
			t.Errorf("Join(%q, %q) = %q, want %q", c.sep, c.parts, got, c.want)
		}
	}
}

// P1.3
func TestSplit(t *testing.T) {
	for _, c := range []struct {
		in   string
		by   byte
		want []string
	}{
		{"", ',', []string{""}},
		{"a", ',', []string{"a"}},
		{",", ',', []string{"", ""}},
		{"a,b", ',', []string{"a", "b"}},
		{",a,,b,", ',', []string{"", "a", "", "b", ""}},
		{"a b", ',', []string{"a b"}},
		{"aAa", 'A', []string{"a", "a"}},
		{"a\x00b", 0, []string{"a", "b"}},
		{"a\xffb", 0xff, []string{"a", "b"}},
		{"\u00e4", 0xc3, []string{"", "\xa4"}},
	} {
		if got := ascii.Split(c.in, c.by); !slices.Equal(got, c.want) {
			t.Errorf("Split(%q, %q) = %q, want %q", c.in, c.by, got, c.want)
		}
	}
}

// P1.4
func TestNumberReadsWhatTextWrites(t *testing.T) {
	check := func(n int64) {
		for _, s := range []string{ascii.Text(n), ascii.Pad(n, 20)} {
			if got, why := ascii.Number(s, math.MaxInt64); got != n || why != api.OK {
				t.Errorf("Number(%q) = %d, %d, want %d", s, got, why, n)
			}
		}
	}
	for n := range int64(2000) {
		check(n)
		check(math.MaxInt64 - n)
	}
	for n := int64(1); n < math.MaxInt64/10; n *= 10 {
		check(n - 1)
		check(n)
	}
}

// P1.4
func TestTextWritesWhatNumberReads(t *testing.T) {
	for _, s := range texts("0159", 5) {
		n, why := ascii.Number(s, math.MaxInt64)
		if s == "" {
			continue
		}
		want := strings.TrimLeft(s, "0")
		if want == "" {
			want = "0"
		}
		if got := ascii.Text(n); got != want || why != api.OK {
			t.Errorf("Text of Number(%q) = %q, %d", s, got, why)
		}
		if got := ascii.Pad(n, len(s)); got != s {
			t.Errorf("Pad of Number(%q) = %q", s, got)
		}
	}
}

// P1.5
func TestTwiceIsOnce(t *testing.T) {
	calls := []struct {
		name string
		call func(string) string
	}{{"Lower", ascii.Lower}, {"Trim", ascii.Trim}, {"Squeeze", ascii.Squeeze}}
	for _, s := range append(texts("aB \t\xff", 6), allBytes()) {
		for _, c := range calls {
			once := c.call(s)
			if twice := c.call(once); twice != once {
				t.Fatalf("%s of %q: %q, and then %q", c.name, s, once, twice)
			}
		}
	}
}

// P1.6
func TestSplitIsJoined(t *testing.T) {
	for _, by := range []byte{',', 0, 0xff} {
		sep := string([]byte{by})
		for _, s := range append(texts("ab"+sep, 7), allBytes()) {
			parts := ascii.Split(s, by)
			if len(parts) != strings.Count(s, sep)+1 {
				t.Fatalf("Split(%q, %q) = %q", s, by, parts)
			}
			if got := ascii.Join(sep, parts...); got != s {
				t.Fatalf("%q was split and joined to %q", s, got)
			}
		}
	}
}

// P1.6
func TestJoinedIsSplit(t *testing.T) {
	few := texts("a;", 2)
	for _, x := range few {
		for _, y := range few {
			for _, z := range few {
				for _, parts := range [][]string{{x}, {x, y}, {x, y, z}} {
					if got := ascii.Split(ascii.Join(",", parts...), ','); !slices.Equal(got, parts) {
						t.Fatalf("%q was joined and split to %q", parts, got)
					}
				}
			}
		}
	}
}
