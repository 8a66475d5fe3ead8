package sum_test

import (
	"bytes"
	"fmt"
	"hash/crc32"
	"hash/fnv"
	"math"
	"math/bits"
	"math/rand"
	"strings"
	"testing"

	"cringle/sum"
)

// bitByBit is the sum as the chapter words it, one bit after the other.
func bitByBit(b []byte) uint32 {
	all := uint32(0xFFFFFFFF)
	for _, one := range b {
		for i := range 8 {
			unlike := all&1 != uint32(one>>i)&1
			all >>= 1
			if unlike {
				all ^= 0xEDB88320
			}
		}
	}
	return ^all
}

// multiplied is the mark as the chapter words it; of each product the lowest 64 bits stay.
func multiplied(b []byte) uint64 {
	all := uint64(0xCBF29CE484222325)
	for _, one := range b {
		_, all = bits.Mul64(all^uint64(one), 0x100000001B3)
	}
	return all
}

// pick are lists of bytes taken by chance, but always the same ones; the first ones are short.
func pick(count int) [][]byte {
	chance := rand.New(rand.NewSource(8))
	all := make([][]byte, count)
	for i := range all {
		all[i] = make([]byte, chance.Intn(i+1))
		chance.Read(all[i])
	}
	return all
}

// short are all lists of at most two bytes.
func short() [][]byte {
	all := [][]byte{nil}
	for a := range 256 {
		all = append(all, []byte{byte(a)})
		for b := range 256 {
			all = append(all, []byte{byte(a), byte(b)})
		}
	}
	return all
}

// known are texts with their sums and marks as others tell them.
func known() []struct {
	text string
	crc  uint32
	mark uint64
} {
	return []struct {
		text string
		crc  uint32
		mark uint64
	}{
		{"", 0, 0xCBF29CE484222325},
		{"123456789", 0xCBF43926, 0x06D5573923C6CDFC},
		{"a", 0xE8B7BE43, 0xAF63DC4C8601EC8C},
		{"abc", 0x352441C2, 0xE71FA2190541574B},
		{"foobar", 0x9EF61F95, 0x85944171F73967E8},
		{"\x00", 0xD202EF8D, 0xAF63BD4C8601B7DF},
		{"\xff", 0xFF000000, 0xAF64724C8602EB6E},
		{"\x00\x00\x00\x00", 0x2144DF1C, 0x4D25767F9DCE13F5},
		{"\xff\xff\xff\xff", 0xFFFFFFFF, 0x994F76653E2A3951},
	}
}

// P8.1
func TestNewIsOfNoBytes(t *testing.T) {
	for i, s := range []sum.Sum{sum.New(), {}, sum.New().Add(), sum.Sum{}.Add(), sum.New().Add(nil...), sum.New().Add([]byte{}...)} {
		if s.Crc() != 0 || s.Mark() != 0xCBF29CE484222325 {
			t.Errorf("%d: %08X, %016X", i, s.Crc(), s.Mark())
		}
		s = s.Add('a').Add('b', 'c')
		if s.Crc() != 0x352441C2 || s.Mark() != 0xE71FA2190541574B {
			t.Errorf("%d, added to: %08X, %016X", i, s.Crc(), s.Mark())
		}
	}
}

// P8.1
func TestKnown(t *testing.T) {
	for _, row := range known() {
		s := sum.New().Add([]byte(row.text)...)
		if s.Crc() != row.crc || s.Mark() != row.mark {
			t.Errorf("%q: %08X, %016X", row.text, s.Crc(), s.Mark())
		}
	}
}

// P8.1
func TestAddAsWorded(t *testing.T) {
	for _, b := range append(short(), pick(600)...) {
		s := sum.New().Add(b...)
		if s.Crc() != bitByBit(b) || s.Mark() != multiplied(b) {
			t.Fatalf("%x: %08X, %016X", b, s.Crc(), s.Mark())
		}
	}
}

// P8.1
func TestAddAsTheLibrary(t *testing.T) {
	for _, b := range append(pick(600), bytes.Repeat([]byte("cringle"), 1<<16), make([]byte, 1<<18)) {
		other := fnv.New64a()
		other.Write(b)
		s := sum.New().Add(b...)
		if s.Crc() != crc32.ChecksumIEEE(b) || s.Mark() != other.Sum64() {
			t.Fatalf("%d bytes: %08X, %016X", len(b), s.Crc(), s.Mark())
		}
	}
}

// P8.1: what is added stands behind, and wherever it is parted.
func TestAddBehind(t *testing.T) {
	for _, b := range pick(120) {
		whole := sum.New().Add(b...)
		one := sum.Sum{}
		for i := range len(b) + 1 {
			parted := sum.New().Add(b[:i]...).Add(b[i:]...)
			if parted.Crc() != whole.Crc() || parted.Mark() != whole.Mark() {
				t.Fatalf("%x, parted at %d", b, i)
			}
			if one.Crc() != bitByBit(b[:i]) || one.Mark() != multiplied(b[:i]) {
				t.Fatalf("%x, the first %d one by one", b, i)
			}
			if i < len(b) {
				one = one.Add(b[i])
			}
		}
	}
}

// P8.1: a Sum tells the same, however often it is asked.
func TestAskedTwice(t *testing.T) {
	s := sum.New().Add('x', 'y')
	crc, mark := s.Crc(), s.Mark()
	if s.Crc() != crc || s.Mark() != mark || s.Add().Crc() != crc || s.Add().Mark() != mark {
		t.Errorf("%08X, %016X", s.Crc(), s.Mark())
	}
}

// P8.2
func TestCrc(t *testing.T) {
	if got := sum.Crc(); got != 0 {
		t.Errorf("no parts: %08X", got)
	}
	if got := sum.Crc(nil, []byte{}, nil); got != 0 {
		t.Errorf("empty parts: %08X", got)
	}
	for _, row := range known() {
		if got := sum.Crc([]byte(row.text)); got != row.crc {
			t.Errorf("%q: %08X", row.text, got)
		}
	}
	for _, b := range append(short(), pick(600)...) {
		if got := sum.Crc(b); got != bitByBit(b) {
			t.Fatalf("%x: %08X", b, got)
		}
	}
	if got := sum.Crc([]byte("b"), []byte("a")); got != bitByBit([]byte("ba")) {
		t.Errorf("b, a: %08X", got)
	}
}

// P8.2
func TestHex(t *testing.T) {
	for _, row := range []struct {
		n      uint64
		digits int
		want   string
	}{
		{0, 0, ""}, {0, 1, "0"}, {0, 16, "0000000000000000"}, {0xCBF43926, 8, "cbf43926"}, {0xCBF43926, 10, "00cbf43926"},
		{0xCBF43926, 7, "bf43926"}, {0xCBF43926, 1, "6"}, {0xCBF43926, 0, ""}, {0x0123456789ABCDEF, 16, "0123456789abcdef"},
		{0x0123456789ABCDEF, 15, "123456789abcdef"}, {0x0123456789ABCDEF, 17, "0123456789abcdef"}, {0xFEDCBA9876543210, 2, "10"},
		{math.MaxUint64, 16, "ffffffffffffffff"}, {math.MaxUint64, 17, "ffffffffffffffff"}, {math.MaxUint64, math.MaxInt, "ffffffffffffffff"},
		{math.MaxUint64, -1, ""}, {math.MaxUint64, -16, ""}, {math.MaxUint64, math.MinInt, ""}, {1 << 63, 16, "8000000000000000"}, {1 << 63, 15, "000000000000000"},
	} {
		if got := sum.Hex(row.n, row.digits); got != row.want {
			t.Errorf("Hex(%X, %d): %q", row.n, row.digits, got)
		}
	}
	chance := rand.New(rand.NewSource(8))
	for range 2000 {
		n := chance.Uint64() >> chance.Intn(64)
		whole := fmt.Sprintf("%016x", n)
		for digits := -3; digits <= 20; digits++ {
			if got := sum.Hex(n, digits); got != whole[16-min(max(digits, 0), 16):] {
				t.Fatalf("Hex(%X, %d): %q", n, digits, got)
			}
		}
	}
}

// P8.2
func TestMark(t *testing.T) {
	for _, row := range []struct {
		parts []string
		want  string
	}{
		{nil, "cbf29ce484222325"},
		{[]string{""}, "af63bd4c8601b7df"},
		{[]string{"", "", "", ""}, "4d25767f9dce13f5"},
	} {
		if got := sum.Mark(row.parts...); got != row.want {
			t.Errorf("%q: %s", row.parts, got)
		}
	}
	for _, parts := range [][]string{{"a"}, {"a", "b"}, {"b", "a"}, {"a", ""}, {"", "a"}, {"ab"}, {"ab", "c"}, {"a", "bc"}, {"a\x00", "b"}, {"\xff\xfe", "é€"}, {"https://ex.org/", "name", "", "x"}} {
		want := fmt.Sprintf("%016x", multiplied([]byte(strings.Join(parts, "\x00")+"\x00")))
		if got := sum.Mark(parts...); got != want {
			t.Errorf("%q: %s, not %s", parts, got, want)
		}
	}
	for _, b := range append(short(), pick(600)...) {
		want := fmt.Sprintf("%016x", multiplied(append(bytes.Clone(b), 0)))
		if got := sum.Mark(string(b)); got != want {
			t.Fatalf("%x: %s, not %s", b, got, want)
		}
	}
}

// P8.2: a mark that begins with zeros has them among its 16 digits.
func TestMarkBeginsWithZero(t *testing.T) {
	met := 0
	for i := range 2000 {
		got := sum.Mark(fmt.Sprint(i))
		if len(got) != 16 || strings.Trim(got, "0123456789abcdef") != "" {
			t.Fatalf("%d: %q", i, got)
		}
		if got[0] == '0' {
			met++
		}
	}
	if met == 0 {
		t.Error("none of them begins with 0")
	}
}

// P8.3
func TestPartsAsJoined(t *testing.T) {
	chance := rand.New(rand.NewSource(83))
	for _, b := range pick(400) {
		var parts [][]byte
		for rest := b; len(rest) > 0 || chance.Intn(2) > 0; {
			n := chance.Intn(len(rest) + 1)
			parts, rest = append(parts, rest[:n]), rest[n:]
		}
		if got := sum.Crc(parts...); got != sum.Crc(b) || got != sum.New().Add(b...).Crc() {
			t.Fatalf("%x in %d parts: %08X", b, len(parts), got)
		}
	}
}

// P8.3: texts whose parts are parted elsewhere have one sum; their marks tell them apart.
func TestMarkTellsPartsApart(t *testing.T) {
	if sum.Crc([]byte("ab"), []byte("c")) != sum.Crc([]byte("a"), []byte("bc")) {
		t.Error("Crc tells parts apart")
	}
	met := map[string][]string{}
	for _, parts := range [][]string{{}, {""}, {"", ""}, {"abc"}, {"ab", "c"}, {"a", "bc"}, {"a", "b", "c"}, {"abc", ""}, {"", "abc"}} {
		mark := sum.Mark(parts...)
		if other, is := met[mark]; is {
			t.Errorf("%q and %q: %s", parts, other, mark)
		}
		met[mark] = parts
	}
}

// P8.4
func TestOneByteIsAnotherOne(t *testing.T) {
	for _, b := range append(pick(60), make([]byte, 40), bytes.Repeat([]byte{0xff}, 40)) {
		crc, mark, text := sum.Crc(b), sum.New().Add(b...).Mark(), sum.Mark(string(b))
		for i := range b {
			other := bytes.Clone(b)
			for turn := 1; turn < 256; turn++ {
				other[i] = b[i] ^ byte(turn)
				s := sum.New().Add(other...)
				if s.Crc() == crc || s.Mark() == mark || sum.Crc(other) == crc || sum.Mark(string(other)) == text {
					t.Fatalf("%x and %x: %08X, %016X", b, other, s.Crc(), s.Mark())
				}
			}
		}
	}
}

// P8.5
func TestAddingTurnsNoOtherSum(t *testing.T) {
	var zero sum.Sum
	all := []sum.Sum{zero, sum.New(), sum.New().Add('a'), sum.New().Add(make([]byte, 100)...)}
	for i, s := range all {
		crc, mark, same := s.Crc(), s.Mark(), s
		x, y := s.Add('x'), s.Add('y')
		x.Add('z')
		if s.Crc() != crc || s.Mark() != mark || same.Crc() != crc || same.Mark() != mark {
			t.Errorf("%d: adding turned what was added to", i)
		}
		again := s.Add('x')
		if x.Crc() != again.Crc() || x.Mark() != again.Mark() || x.Crc() == y.Crc() || x.Mark() == y.Mark() {
			t.Errorf("%d: adding turned another that came of it", i)
		}
	}
	if zero.Crc() != 0 || sum.New().Crc() != 0 || sum.New().Mark() != 0xCBF29CE484222325 {
		t.Error("adding turned the Sum of no bytes")
	}
}

// P8.5, R4: neither does a Sum hang on the list that was added, nor is that written into.
func TestListsStay(t *testing.T) {
	b := []byte("123456789")
	s := sum.New().Add(b...)
	crc := sum.Crc(b, b[:3])
	mark := sum.Mark([]string{"1", "2"}...)
	if string(b) != "123456789" {
		t.Fatalf("the list is %q now", b)
	}
	for i := range b {
		b[i] = 'x'
	}
	if s.Crc() != 0xCBF43926 || s.Mark() != 0x06D5573923C6CDFC {
		t.Errorf("%08X, %016X", s.Crc(), s.Mark())
	}
	if crc != bitByBit([]byte("123456789123")) || mark != sum.Mark("1", "2") {
		t.Errorf("%08X, %s", crc, mark)
	}
}
