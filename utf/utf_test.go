package utf_test

import (
	"math"
	"slices"
	"strings"
	"testing"

	"cringle/api"
	"cringle/utf"
)

// edges are bytes at which what may stand there turns, and some between.
const edges = "\x00A\x7f\x80\x8f\x90\x9f\xa0\xbb\xbd\xbf\xc0\xc1\xc2\xdf\xe0\xe1\xec\xed\xee\xef\xf0\xf1\xf3\xf4\xf5\xff"

// few are enough of them that parts of all lengths stand beside each other.
const few = "A\x80\x9f\xbf\xc3\xe2\xed\xf0"

// texts are all texts of at most size bytes of the alphabet.
func texts(alphabet string, size int) []string {
	all := []string{""}
	for from := 0; size > 0; size-- {
		to := len(all)
		for _, s := range all[from:to] {
			for i := range len(alphabet) {
				all = append(all, s+alphabet[i:i+1])
			}
		}
		from = to
	}
	return all
}

func isSign(n rune) bool {
	return 0 <= n && n <= 0x10FFFF && !(0xD800 <= n && n <= 0xDFFF)
}

// bits are a sign's bytes as UTF-8 defines them, told apart from what the library does.
func bits(n rune) string {
	more := func(by uint) byte { return 0x80 | byte(n>>by)&0x3F }
	switch {
	case n < 0x80:
		return string([]byte{byte(n)})
	case n < 0x800:
		return string([]byte{0xC0 | byte(n>>6), more(0)})
	case n < 0x10000:
		return string([]byte{0xE0 | byte(n>>12), more(6), more(0)})
	}
	return string([]byte{0xF0 | byte(n>>18), more(12), more(6), more(0)})
}

// book is the document's definition written out: all signs by their bytes, and all that these begin with.
type book struct {
	signs map[string]rune
	begun map[string]bool
}

func newBook() book {
	b := book{map[string]rune{}, map[string]bool{}}
	for n := rune(0); n <= 0x10FFFF; n++ {
		if !isSign(n) {
			continue
		}
		s := bits(n)
		b.signs[s] = n
		for i := 1; i < len(s); i++ {
			b.begun[s[:i]] = true
		}
	}
	return b
}

func (b book) next(s string) (rune, int, api.Errno) {
	if s == "" {
		return 0, 0, api.ErrUtf
	}
	for n := 1; n <= min(4, len(s)); n++ {
		if sign, ok := b.signs[s[:n]]; ok {
			return sign, n, api.OK
		}
	}
	n := 1
	for n < len(s) && b.begun[s[:n+1]] {
		n++
	}
	return 0xFFFD, n, api.ErrUtf
}

// parts are the places behind s's signs and largest good parts, with 0 ahead; repaired is its text; good tells whether it is one.
func (b book) parts(s string) (places []int, repaired string, good bool) {
	places, good = []int{0}, true
	for at := 0; at < len(s); {
		_, n, why := b.next(s[at:])
		if why == api.OK {
			repaired += s[at : at+n]
		} else {
			repaired += "\xef\xbf\xbd"
			good = false
		}
		at += n
		places = append(places, at)
	}
	return places, repaired, good
}

// P2.1
func TestPutEachNumber(t *testing.T) {
	for n := rune(-300); n <= 0x110300; n++ {
		want := "\xef\xbf\xbd"
		if isSign(n) {
			want = bits(n)
		}
		if got := utf.Put(nil, n); string(got) != want {
			t.Fatalf("Put(nil, %x) = % x, want % x", n, got, want)
		}
	}
	for _, n := range []rune{math.MinInt32, math.MinInt32 + 1, -1, 0xD800, 0xDBFF, 0xDC00, 0xDFFF, 0x110000, 0x200000, math.MaxInt32} {
		if got := utf.Put([]byte("a"), n); string(got) != "a\xef\xbf\xbd" {
			t.Errorf("Put(a, %x) = % x", n, got)
		}
	}
}

// P2.1
func TestPutBehind(t *testing.T) {
	for _, c := range []struct {
		b     string
		signs []rune
		want  string
	}{
		{"", nil, ""},
		{"ab", nil, "ab"},
		{"", []rune{0x20AC}, "\xe2\x82\xac"},
		{"ab", []rune{'c', 0xE9, 0x20AC, 0x1F600}, "abc\xc3\xa9\xe2\x82\xac\xf0\x9f\x98\x80"},
		{"\xff\xe2", []rune{0, -1, 0xD800, 'x'}, "\xff\xe2\x00\xef\xbf\xbd\xef\xbf\xbdx"},
		// What stands ahead stays as it is, even if what is put could be taken for its rest.
		{"\xe2\x82", []rune{0xFFFD}, "\xe2\x82\xef\xbf\xbd"},
	} {
		if got := utf.Put([]byte(c.b), c.signs...); string(got) != c.want {
			t.Errorf("Put(% x, %x) = % x, want % x", c.b, c.signs, got, c.want)
		}
	}
}

// P2.1, R4
func TestPutLeavesItsArguments(t *testing.T) {
	room := []byte("abcdefgh")
	signs := []rune{'x', -7, 0x20AC}
	got := utf.Put(room[:3], signs...)
	if string(got) != "abcx\xef\xbf\xbd\xe2\x82\xac" || string(room) != "abcdefgh" {
		t.Fatalf("Put: % x, and the room is %q", got, room)
	}
	for i := range got {
		got[i] = '!'
	}
	if string(room) != "abcdefgh" || !slices.Equal(signs, []rune{'x', -7, 0x20AC}) {
		t.Fatalf("writing into the answer turned %q, %x", room, signs)
	}
	alone := utf.Put(room)
	alone[0] = '!'
	if room[0] != 'a' {
		t.Fatal("Put of no signs answers its argument's memory")
	}
	again := append(utf.Put(room[:3]), 'z')
	if string(again) != "abcz" || string(room) != "abcdefgh" {
		t.Fatalf("appending to the answer turned %q", room)
	}
}

// P2.1
func TestNext(t *testing.T) {
	for _, c := range []struct {
		s    string
		sign rune
		size int
		why  api.Errno
	}{
		{"", 0, 0, api.ErrUtf},
		{"\x00", 0, 1, api.OK},
		{"abc", 'a', 1, api.OK},
		{"\x7f\x80", 0x7F, 1, api.OK},
		{"\xc2\x80\x80", 0x80, 2, api.OK},
		{"\xdf\xbf", 0x7FF, 2, api.OK},
		{"\xe0\xa0\x80", 0x800, 3, api.OK},
		{"\xe2\x82\xacx", 0x20AC, 3, api.OK},
		{"\xed\x9f\xbf", 0xD7FF, 3, api.OK},
		{"\xee\x80\x80", 0xE000, 3, api.OK},
		{"\xef\xbf\xbd", 0xFFFD, 3, api.OK},
		{"\xef\xbf\xbf", 0xFFFF, 3, api.OK},
		{"\xf0\x90\x80\x80", 0x10000, 4, api.OK},
		{"\xf4\x8f\xbf\xbf\xbf", 0x10FFFF, 4, api.OK},
		// No sign begins so.
		{"\x80", 0xFFFD, 1, api.ErrUtf},
		{"\xbf\xbf", 0xFFFD, 1, api.ErrUtf},
		{"\xc0\x80", 0xFFFD, 1, api.ErrUtf},
		{"\xc1\xbf", 0xFFFD, 1, api.ErrUtf},
		{"\xf5\x80\x80\x80", 0xFFFD, 1, api.ErrUtf},
		{"\xff", 0xFFFD, 1, api.ErrUtf},
		// A second byte that may not stand behind that first one.
		{"\xe0\x9f\xbf", 0xFFFD, 1, api.ErrUtf},
		{"\xed\xa0\x80", 0xFFFD, 1, api.ErrUtf},
		{"\xf0\x8f\xbf\xbf", 0xFFFD, 1, api.ErrUtf},
		{"\xf4\x90\x80\x80", 0xFFFD, 1, api.ErrUtf},
		{"\xc3A", 0xFFFD, 1, api.ErrUtf},
		{"\xc3\xc3\xa9", 0xFFFD, 1, api.ErrUtf},
		// Signs that break off.
		{"\xc3", 0xFFFD, 1, api.ErrUtf},
		{"\xe2", 0xFFFD, 1, api.ErrUtf},
		{"\xe2\x82", 0xFFFD, 2, api.ErrUtf},
		{"\xe2\x82A", 0xFFFD, 2, api.ErrUtf},
		{"\xe2\x82\xe2\x82\xac", 0xFFFD, 2, api.ErrUtf},
		{"\xef\xbf", 0xFFFD, 2, api.ErrUtf},
		{"\xf0\x9f", 0xFFFD, 2, api.ErrUtf},
		{"\xf0\x9fA", 0xFFFD, 2, api.ErrUtf},
		{"\xf0\x9f\x98", 0xFFFD, 3, api.ErrUtf},
		{"\xf0\x9f\x98A", 0xFFFD, 3, api.ErrUtf},
		{"\xf4\x8f\xbf\xff", 0xFFFD, 3, api.ErrUtf},
	} {
		sign, size, why := utf.Next(c.s)
		if sign != c.sign || size != c.size || why != c.why {
			t.Errorf("Next(% x) = %x, %d, %d, want %x, %d, %d", c.s, sign, size, why, c.sign, c.size, c.why)
		}
	}
}

// P2.1, P2.2: all beginnings, held against the definitions.
func TestAllBeginnings(t *testing.T) {
	b := newBook()
	check := func(s string) {
		wantSign, wantSize, wantWhy := b.next(s)
		sign, size, why := utf.Next(s)
		if sign != wantSign || size != wantSize || why != wantWhy {
			t.Fatalf("Next(% x) = %x, %d, %d, want %x, %d, %d", s, sign, size, why, wantSign, wantSize, wantWhy)
		}
	}
	for first := range 256 {
		for second := range 256 {
			check(string([]byte{byte(first)}))
			check(string([]byte{byte(first), byte(second)}))
			check(string([]byte{byte(first), byte(second), 0x80, 0xBF}))
		}
	}
	for _, s := range texts(edges, 4) {
		check(s)
	}
}

// P2.2: texts of many parts, held against the definitions.
func TestAllParts(t *testing.T) {
	b := newBook()
	for _, s := range append(texts(few, 6), texts(edges, 3)...) {
		places, repaired, good := b.parts(s)
		if got := utf.IsText(s); got != good {
			t.Fatalf("IsText(% x) = %v", s, got)
		}
		if got := utf.Repair(s); got != repaired {
			t.Fatalf("Repair(% x) = % x, want % x", s, got, repaired)
		}
		if _, why := utf.Signs(s); (why == api.OK) != good {
			t.Fatalf("Signs(% x): %d", s, why)
		}
		for most := -1; most <= len(s)+1; most++ {
			end := 0
			for _, place := range places {
				if place <= most {
					end = place
				}
			}
			if got := utf.Cut(s, most); got != s[:end] {
				t.Fatalf("Cut(% x, %d) = % x, want % x", s, most, got, s[:end])
			}
		}
	}
}

// P2.2
func TestIsText(t *testing.T) {
	for _, s := range []string{"", "a", "\x00", "gr\u00fc\u00df", "\u20ac\ufffd\U0001f600", "\xef\xbf\xbd", "\xf4\x8f\xbf\xbf", "\xed\x9f\xbf\xee\x80\x80"} {
		if !utf.IsText(s) {
			t.Errorf("IsText(% x) = false", s)
		}
	}
	for _, s := range []string{"\x80", "a\xff", "\xc3", "\xc0\x80", "\xed\xa0\x80", "\xf4\x90\x80\x80", "\xe2\x82A", "\ufffd\xef\xbf", "\xef\xbf\xef\xbf\xbd", "\u20ac\xac"} {
		if utf.IsText(s) {
			t.Errorf("IsText(% x) = true", s)
		}
	}
}

// P2.2
func TestRepair(t *testing.T) {
	const no = "\xef\xbf\xbd"
	for _, c := range []struct{ s, want string }{
		{"", ""},
		{"abc", "abc"},
		{"\u20ac\ufffd\U0001f600", "\u20ac\ufffd\U0001f600"},
		{"\xe2\x82A", no + "A"},
		{"A\xe2\x82", "A" + no},
		{"\x80\x80\x80", no + no + no},
		{"\xe2\x82\xe2\x82\xac", no + "\u20ac"},
		{"\xf0\x9f\x98\xf0\x9f\xf0", no + no + no},
		{"\xf0\x9f\x98\x80\x80", "\U0001f600" + no},
		{"\xed\xa0\x80", no + no + no},
		{"\xc0\xaf", no + no},
		{"\xf4\x90\x80\x80", no + no + no + no},
		{"\xef\xbf" + no + "\xbd", no + no + no},
		{"\xef\xbf\xef\xbf", no + no},
		{"\xffA\xfe", no + "A" + no},
		{strings.Repeat("\xe2\x82", 70000), strings.Repeat(no, 70000)},
	} {
		if got := utf.Repair(c.s); got != c.want {
			t.Errorf("Repair(%.20q) = %.20q, want %.20q", c.s, got, c.want)
		}
	}
}

// P2.2
func TestSigns(t *testing.T) {
	for _, c := range []struct {
		s    string
		want []rune
	}{
		{"", nil},
		{"a\x00b", []rune{'a', 0, 'b'}},
		{"\u00e9\u20ac\ufffd\U0010ffff", []rune{0xE9, 0x20AC, 0xFFFD, 0x10FFFF}},
	} {
		if got, why := utf.Signs(c.s); !slices.Equal(got, c.want) || why != api.OK {
			t.Errorf("Signs(% x) = %x, %d", c.s, got, why)
		}
	}
	for _, s := range []string{"\xff", "ab\xe2\x82", "\ufffd\x80", "\xed\xa0\x80", "\xef\xbf"} {
		if got, why := utf.Signs(s); len(got) != 0 || why != api.ErrUtf {
			t.Errorf("Signs(% x) = %x, %d", s, got, why)
		}
	}
}

// P2.2
func TestCut(t *testing.T) {
	for _, c := range []struct {
		s    string
		most int
		want string
	}{
		{"", 0, ""},
		{"", math.MinInt, ""},
		{"", math.MaxInt, ""},
		{"abc", math.MinInt, ""},
		{"abc", -1, ""},
		{"abc", 0, ""},
		{"abc", 2, "ab"},
		{"abc", 3, "abc"},
		{"abc", math.MaxInt, "abc"},
		{"a\u20acb", 1, "a"},
		{"a\u20acb", 2, "a"},
		{"a\u20acb", 3, "a"},
		{"a\u20acb", 4, "a\u20ac"},
		{"\U0001f600", 3, ""},
		{"\U0001f600", 4, "\U0001f600"},
		// A largest good part is not cut either, and faults beside each other are.
		{"a\xe2\x82b", 2, "a"},
		{"a\xe2\x82b", 3, "a\xe2\x82"},
		{"\xf0\x9f\x98A", 2, ""},
		{"\xf0\x9f\x98A", 3, "\xf0\x9f\x98"},
		{"\x80\x80\x80", 2, "\x80\x80"},
		{"\xed\xa0\x80", 2, "\xed\xa0"},
		{"\xe2\x82\x80\x80", 4, "\xe2\x82\x80\x80"},
	} {
		if got := utf.Cut(c.s, c.most); got != c.want {
			t.Errorf("Cut(% x, %d) = % x, want % x", c.s, c.most, got, c.want)
		}
	}
}

// P2.3
func TestWhatIsPutIsNext(t *testing.T) {
	for n := rune(0); n <= 0x10FFFF; n++ {
		if !isSign(n) {
			continue
		}
		for _, behind := range []rune{'x', 0x20AC} {
			b := utf.Put(nil, n, behind)
			sign, size, why := utf.Next(string(b))
			if sign != n || why != api.OK || string(b[size:]) != bits(behind) {
				t.Fatalf("Next of %x put ahead of %x: %x, %d, %d", n, behind, sign, size, why)
			}
		}
	}
	for _, n := range []rune{-1, 0xD800, 0x110000} {
		if sign, size, why := utf.Next(string(utf.Put(nil, n))); sign != 0xFFFD || size != 3 || why != api.OK {
			t.Errorf("Next of %x put: %x, %d, %d", n, sign, size, why)
		}
	}
}

// P2.4
func TestRepairedIsText(t *testing.T) {
	for _, s := range append(texts(few, 5), texts(edges, 3)...) {
		got := utf.Repair(s)
		if !utf.IsText(got) {
			t.Fatalf("Repair(% x) = % x is no text", s, got)
		}
		if again := utf.Repair(got); again != got {
			t.Fatalf("Repair(% x) = % x", got, again)
		}
		if utf.IsText(s) != (got == s) {
			t.Fatalf("Repair(% x) = % x, IsText is %v", s, got, utf.IsText(s))
		}
	}
}

// P2.5
func TestSignsPutAreTheText(t *testing.T) {
	var all []byte
	var want []rune
	for n := rune(0); n <= 0x10FFFF; n++ {
		if isSign(n) {
			all = append(all, bits(n)...)
			want = append(want, n)
		}
	}
	signs, why := utf.Signs(string(all))
	if why != api.OK || !slices.Equal(signs, want) {
		t.Fatalf("Signs of all signs: %d of them, %d", len(signs), why)
	}
	if got := utf.Put(nil, signs...); string(got) != string(all) {
		t.Fatal("all signs put are not their text")
	}
	for _, s := range texts(few, 5) {
		if signs, why := utf.Signs(s); why == api.OK && string(utf.Put(nil, signs...)) != s {
			t.Fatalf("Signs(% x) = %x, which are put as another text", s, signs)
		}
	}
}

// P2.6
func TestCutTextIsText(t *testing.T) {
	s := "a\u00e9\u20ac\U0001f600\U0010ffff\ufffd\u07ffz\x00"
	for most := 0; most <= len(s)+4; most++ {
		got := utf.Cut(s, most)
		if !utf.IsText(got) || !strings.HasPrefix(s, got) {
			t.Errorf("Cut(s, %d) = % x", most, got)
		}
		if may := min(most, len(s)); len(got) > may || len(got) < may-3 {
			t.Errorf("Cut(s, %d) has %d bytes", most, len(got))
		}
	}
	long := strings.Repeat("\U0001f600", 1<<16)
	if got := utf.Cut(long, len(long)-1); got != long[:len(long)-4] {
		t.Errorf("Cut of a long text has %d bytes", len(got))
	}
}
