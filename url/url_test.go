package url_test

import (
	"fmt"
	"math"
	"math/rand"
	"regexp"
	"strconv"
	"strings"
	"testing"

	"cringle/api"
	"cringle/url"
)

// texts are all texts of at most size of the pieces.
func texts(size int, pieces ...string) []string {
	all := []string{""}
	for from := 0; size > 0; size-- {
		to := len(all)
		for _, s := range all[from:to] {
			for _, piece := range pieces {
				all = append(all, s+piece)
			}
		}
		from = to
	}
	return all
}

// pick are texts of pieces taken by chance, but always the same ones.
func pick(count, size int, pieces ...string) []string {
	chance := rand.New(rand.NewSource(4))
	all := make([]string, count)
	for i := range all {
		for range chance.Intn(size + 1) {
			all[i] += pieces[chance.Intn(len(pieces))]
		}
	}
	return all
}

// The shapes that the definitions speak of.
var (
	blanksAhead  = regexp.MustCompile(`^[\x00-\x20]+`)
	blanksBehind = regexp.MustCompile(`[\x00-\x20]+$`)
	slash        = regexp.MustCompile(`[/\\]`)
	slashAhead   = regexp.MustCompile(`^[/\\]`)
	dots         = regexp.MustCompile(`^(?i:\.|%2e){1,2}$`)
	twoDots      = regexp.MustCompile(`^(?i:\.|%2e){2}$`)
	mark         = regexp.MustCompile(`%[0-9a-fA-F]{2}`)
	name         = regexp.MustCompile(`^[a-z0-9_-]{1,63}(\.[a-z0-9_-]{1,63})*$`)
	digitsLast   = regexp.MustCompile(`(^|\.)[0-9]+$`)
	address      = regexp.MustCompile(`^((25[0-5]|2[0-4][0-9]|1[0-9][0-9]|[1-9]?[0-9])(\.|$)){4}$`)
	number       = regexp.MustCompile(`^[0-9]+$`)
	scheme       = regexp.MustCompile(`(?s)^([A-Za-z][A-Za-z0-9+.-]*):(.*)$`)
	place        = regexp.MustCompile(`(?s)^[/\\]+([^/\\?#:]*)(:([^/\\?#]*))?(.*)$`)
	tail         = regexp.MustCompile(`(?s)^([^?#]*)(\?[^#]*)?(#.*)?$`)
)

// What is marked, beside bytes up to 32 and above 126.
const (
	markedInPath  = "\"<>#?`{}"
	markedInQuery = "\"<>#'"
	markedInFrag  = "\"<>`"
)

// marked is the document's definition of it.
func marked(s, signs string) string {
	out := ""
	for i := range len(s) {
		if s[i] <= 32 || s[i] > 126 || strings.IndexByte(signs, s[i]) >= 0 {
			out += fmt.Sprintf("%%%02X", s[i])
		} else {
			out += s[i : i+1]
		}
	}
	return out
}

// pathOf is the document's definition of a path: the first part that leads elsewhere is done away with, till there is none.
func pathOf(s string) string {
	parts := slash.Split(slashAhead.ReplaceAllString(s, ""), -1)
	for i := range parts {
		parts[i] = marked(parts[i], markedInPath)
	}
	if dots.MatchString(parts[len(parts)-1]) {
		parts = append(parts, "")
	}
	for i := 0; i < len(parts); {
		switch {
		case twoDots.MatchString(parts[i]) && i > 0:
			parts = append(parts[:i-1:i-1], parts[i+1:]...)
			i--
		case dots.MatchString(parts[i]):
			parts = append(parts[:i:i], parts[i+1:]...)
		default:
			i++
		}
	}
	return "/" + strings.Join(parts, "/")
}

// nameOf tells whether a text is a host's name.
func nameOf(s string) bool {
	return len(s) <= 253 && name.MatchString(s) && (!digitsLast.MatchString(s) || address.MatchString(s))
}

// unmarked is layer 3's, of marks of any letters.
func unmarked(s string) string {
	return mark.ReplaceAllStringFunc(s, func(one string) string {
		n, _ := strconv.ParseUint(one[1:], 16, 8)
		return string([]byte{byte(n)})
	})
}

// hostOf is the document's definition of a host.
func hostOf(s string) (string, api.Errno) {
	out := []byte(unmarked(s))
	for i, c := range out {
		if 'A' <= c && c <= 'Z' {
			out[i] = c + 32
		}
	}
	switch {
	case len(out) == 0:
		return "", api.ErrEnd
	case !nameOf(string(out)):
		return "", api.ErrHost
	}
	return string(out), api.OK
}

// cleaned is the document's definition of it.
func cleaned(s string) string {
	s = blanksBehind.ReplaceAllString(blanksAhead.ReplaceAllString(s, ""), "")
	return strings.ReplaceAll(strings.ReplaceAll(strings.ReplaceAll(s, "\t", ""), "\n", ""), "\r", "")
}

// tailOf is the document's definition of what stands behind a place.
func tailOf(u api.URL, s string) api.URL {
	m := tail.FindStringSubmatch(s)
	u.Path = pathOf(m[1])
	if m[2] != "" {
		u.Query, u.HasQuery = marked(m[2][1:], markedInQuery), true
	}
	if m[3] != "" {
		u.Frag, u.HasFrag = marked(m[3][1:], markedInFrag), true
	}
	return u
}

// portOf is the document's definition of a port.
func portOf(scheme, s string) (int, bool) {
	if s == "" {
		return 0, true
	}
	if !number.MatchString(s) {
		return 0, false
	}
	n, err := strconv.ParseUint(s, 10, 16)
	if scheme == "http" && n == 80 || scheme == "https" && n == 443 {
		n = 0
	}
	return int(n), err == nil
}

// parsed is the document's definition of it.
func parsed(s string) (api.URL, api.Errno) {
	s = cleaned(s)
	if len(s) > 2048 {
		return api.URL{}, api.ErrMany
	}
	m := scheme.FindStringSubmatch(s)
	if m == nil {
		return api.URL{}, api.ErrForm
	}
	kind := strings.ToLower(m[1])
	if kind != "http" && kind != "https" {
		return api.URL{}, api.ErrKind
	}
	m = place.FindStringSubmatch(m[2])
	if m == nil || strings.Contains(m[1]+m[2], "@") {
		return api.URL{}, api.ErrForm
	}
	host, why := hostOf(m[1])
	if why != api.OK {
		return api.URL{}, why
	}
	port, ok := portOf(kind, m[3])
	if !ok {
		return api.URL{}, api.ErrForm
	}
	u := tailOf(api.URL{Scheme: kind, Host: host, Port: port}, m[4])
	if len(textOf(u)) > 2048 {
		return api.URL{}, api.ErrMany
	}
	return u, api.OK
}

// textOf is the document's definition of a URL's text.
func textOf(u api.URL) string {
	port, query, frag := "", "", ""
	if u.Port != 0 {
		port = fmt.Sprint(":", u.Port)
	}
	if u.HasQuery {
		query = "?" + u.Query
	}
	if u.HasFrag {
		frag = "#" + u.Frag
	}
	return fmt.Sprint(u.Scheme, "://", u.Host, port, u.Path, query, frag)
}

// many are texts of which some are URLs.
func many() []string {
	all := texts(5, "http:", "/", "a", ":", "?", "#", "@", ".", "8")
	for _, s := range texts(4, "/", "\\", "a", "..", "%2E", "?", "#", " ", ":", "@") {
		all = append(all, "http://h"+s, "https:"+s)
	}
	for _, s := range pick(20000, 24, "/", "/", "\\", ".", "..", "%2e", "%2E", "a", "B", "?", "#", "%", "`", "{", "}", "'", "\"", "<", ">", " ", "\t", "\n", "\x00", "\x7f", "é", "\xff", "|", "^", "[", ":", "@") {
		all = append(all, "http://a.b"+s, "HttpS://a:8"+s, "\x1f"+s)
	}
	for _, s := range pick(20000, 9, "a", "B", "-", "_", ".", ".", "0", "1", "25", "6", "%61", "%2e", "%00", "%", ":", ":", "80", "443", "65535", "@", " ", "é", "\t") {
		all = append(all, "http://"+s, "https:\\"+s+"/p?q#f")
	}
	return all
}

// P4.1
func TestClean(t *testing.T) {
	for _, c := range []struct{ s, want string }{
		{"", ""},
		{" ", ""},
		{"\x00\x1f \t\r\n\f\x0b", ""},
		{"a", "a"},
		{" a ", "a"},
		{"\x00\x01a b\x1f\x20", "a b"},
		{"a\tb\nc\rd", "abcd"},
		{"a\x0bb\x0cc\x00d", "a\x0bb\x0cc\x00d"},
		{"a \n", "a"},
		{"\n \n!\n \n!\n \n", "! !"},
		{"\x7fa\x7f", "\x7fa\x7f"},
		{"\u00a0a\u2003", "\u00a0a\u2003"},
		{"\u0085\u2028", "\u0085\u2028"},
		{"\xff\t\xfe ", "\xff\xfe"},
		{"\xc3\n\xa9", "é"},
		{"\ufffd\t\ufffd", "\ufffd\ufffd"},
	} {
		if got := url.Clean(c.s); got != c.want {
			t.Errorf("Clean(%q) = %q, want %q", c.s, got, c.want)
		}
	}
}

// P4.1
func TestCleanEachByte(t *testing.T) {
	for i := range 256 {
		c := string([]byte{byte(i)})
		ends, within := c+"a"+c, "a"+c+"a"
		if i <= 32 {
			ends = "a"
		}
		if i == 9 || i == 10 || i == 13 {
			within = "aa"
		}
		if got := url.Clean(c + "a" + c); got != ends {
			t.Errorf("the byte %d at both ends: %q, want %q", i, got, ends)
		}
		if got := url.Clean("a" + c + "a"); got != within {
			t.Errorf("the byte %d within: %q, want %q", i, got, within)
		}
	}
}

// P4.1
func TestCleanAgainstTheDefinition(t *testing.T) {
	for _, s := range texts(6, "a", " ", "\t", "\n", "\x00", "\xe2", "\r") {
		got := url.Clean(s)
		if want := cleaned(s); got != want {
			t.Fatalf("Clean(%q) = %q, want %q", s, got, want)
		}
		if twice := url.Clean(got); twice != got {
			t.Fatalf("Clean(%q) = %q", got, twice)
		}
	}
}

// P4.1
func TestPath(t *testing.T) {
	for _, c := range []struct{ s, want string }{
		{"", "/"},
		{"/", "/"},
		{`\`, "/"},
		{"//", "//"},
		{`\\/`, "///"},
		{"a", "/a"},
		{"/a", "/a"},
		{"a/", "/a/"},
		{"/a//b", "/a//b"},
		{`a\b/c`, "/a/b/c"},
		{"a%2Fb%5cc", "/a%2Fb%5cc"},
		// One dot.
		{".", "/"},
		{"/.", "/"},
		{"./", "/"},
		{"a/.", "/a/"},
		{"a/./", "/a/"},
		{"a/./b", "/a/b"},
		{"./a", "/a"},
		{"././.", "/"},
		{"/./a", "/a"},
		{"/.//a", "//a"},
		// Two.
		{"..", "/"},
		{"/..", "/"},
		{"../", "/"},
		{"../..", "/"},
		{"../a", "/a"},
		{"a/..", "/"},
		{"a/../", "/"},
		{"a/../b", "/b"},
		{"a/b/..", "/a/"},
		{"a/b/../", "/a/"},
		{"a/b/../c", "/a/c"},
		{"a/b/../../c", "/c"},
		{"a/b/../../../c", "/c"},
		{"a/b/c/../../d/..", "/a/"},
		{"../../a/b", "/a/b"},
		{`a\..\b`, "/b"},
		{"a/./../b", "/b"},
		// Empty parts are parts.
		{"a//..", "/a/"},
		{"a//../b", "/a/b"},
		{"a//../..", "/"},
		{"//..", "/"},
		{"//../a", "/a"},
		{"///..", "//"},
		{"..//a", "//a"},
		{"a/..//", "//"},
		// Marked dots, of any letters.
		{"%2e", "/"},
		{"%2E", "/"},
		{"a/%2e%2e/b", "/b"},
		{"a/%2E%2e/b", "/b"},
		{"a/.%2e/b", "/b"},
		{"a/%2E./b", "/b"},
		{"a/b/%2e", "/a/b/"},
		{"a/b/%2E%2E", "/a/"},
		// All else that looks so is a part.
		{"...", "/..."},
		{"a/.../b", "/a/.../b"},
		{".a/..b/a./b..", "/.a/..b/a./b.."},
		{"%2e%2e%2e", "/%2e%2e%2e"},
		{"%252e", "/%252e"},
		{"%2ea", "/%2ea"},
		{"%2", "/%2"},
		{". ", "/.%20"},
		{" ..", "/%20.."},
		{"a/..\t/b", "/a/..%09/b"},
		{"%2%65/a", "/%2%65/a"},
		// Marks.
		{"a b", "/a%20b"},
		{"é", "/%C3%A9"},
		{"a?b#c", "/a%3Fb%23c"},
		{"a/?/..", "/a/"},
		{"\"<>`{}", "/%22%3C%3E%60%7B%7D"},
		{"%zz%", "/%zz%"},
		{"!$%&'()*+,-.:;=@[]^_|~", "/!$%&'()*+,-.:;=@[]^_|~"},
		{"\x00\n\x7f\xff", "/%00%0A%7F%FF"},
		// Nothing here is a scheme, or a place.
		{"http://a/b/..", "/http://a/"},
	} {
		if got := url.Path(c.s); got != c.want {
			t.Errorf("Path(%q) = %q, want %q", c.s, got, c.want)
		}
	}
}

// P4.1
func TestPathAgainstTheDefinition(t *testing.T) {
	all := texts(6, "/", ".", "a", "..", "%2e", `\`)
	all = append(all, texts(3, "/", "%2E", "%2e", ".", " ", "?", "%", "\xff")...)
	all = append(all, strings.Repeat("a/", 1<<10)+strings.Repeat("../", 1<<10)+"b", strings.Repeat("../", 1<<10))
	for _, s := range all {
		if got, want := url.Path(s), pathOf(s); got != want {
			t.Fatalf("Path(%q) = %q, want %q", s, got, want)
		}
	}
}

// P4.1, P4.2: which bytes are marked in a path, a query, and a fragment.
func TestEachByteIsMarked(t *testing.T) {
	for i := range 256 {
		c := string([]byte{byte(i)})
		path := "/a" + marked(c, markedInPath) + "b"
		if c == `\` {
			path = "/a/b"
		}
		if got := url.Path("a" + c + "b"); got != path {
			t.Errorf("Path of the byte %d: %q, want %q", i, got, path)
		}
		if i == 9 || i == 10 || i == 13 {
			continue
		}
		u, why := url.Parse("http://h/?a" + c + "b")
		query, frag := "a"+marked(c, markedInQuery)+"b", ""
		if c == "#" {
			query, frag = "a", "b"
		}
		if u.Query != query || u.Frag != frag || u.HasFrag != (c == "#") || !u.HasQuery || why != api.OK {
			t.Errorf("the byte %d in a query: %+v, %d", i, u, why)
		}
		u, why = url.Parse("http://h/#a" + c + "b")
		if frag := "a" + marked(c, markedInFrag) + "b"; u.Frag != frag || !u.HasFrag || u.HasQuery || why != api.OK {
			t.Errorf("the byte %d in a fragment: %+v, %d", i, u, why)
		}
	}
}

// P4.1
func TestHost(t *testing.T) {
	label := strings.Repeat("a", 63)
	long := label + "." + label + "." + label + "." + label[:61]
	for _, c := range []struct {
		s, want string
		why     api.Errno
	}{
		{"", "", api.ErrEnd},
		{"a", "a", api.OK},
		{"EX.org", "ex.org", api.OK},
		{"a-b_c.d", "a-b_c.d", api.OK},
		{"-", "-", api.OK},
		{"_.-", "_.-", api.OK},
		{"xn--bcher-kva.ch", "xn--bcher-kva.ch", api.OK},
		// Unmarked, and then to lower.
		{"%41", "a", api.OK},
		{"a%2eb", "a.b", api.OK},
		{"%61%2D%5f", "a-_", api.OK},
		{"%2561", "", api.ErrHost},
		{"%", "", api.ErrHost},
		{"a%4", "", api.ErrHost},
		{"%00", "", api.ErrHost},
		{"%40", "", api.ErrHost},
		{"a%3A80", "", api.ErrHost},
		{"a%2Fb", "", api.ErrHost},
		// Parts.
		{".", "", api.ErrHost},
		{"a.", "", api.ErrHost},
		{".a", "", api.ErrHost},
		{"a..b", "", api.ErrHost},
		{label, label, api.OK},
		{label + "a", "", api.ErrHost},
		{"b." + label, "b." + label, api.OK},
		{"b." + label + "a.c", "", api.ErrHost},
		{long, long, api.OK},
		{long + "a", "", api.ErrHost},
		{long[:252] + "%41", long, api.OK},
		{strings.Repeat("a.", 126) + "a", strings.Repeat("a.", 126) + "a", api.OK},
		{strings.Repeat("a.", 126) + "aa", "", api.ErrHost},
		// Other signs.
		{" ", "", api.ErrHost},
		{" a", "", api.ErrHost},
		{"a b", "", api.ErrHost},
		{"a\t", "", api.ErrHost},
		{"a\n", "", api.ErrHost},
		{"é", "", api.ErrHost},
		{"\u212a", "", api.ErrHost},
		{"\xff", "", api.ErrHost},
		{"a:80", "", api.ErrHost},
		{"a@b", "", api.ErrHost},
		{"a/b", "", api.ErrHost},
		{"[::1]", "", api.ErrHost},
		{"[", "", api.ErrHost},
		// Digits.
		{"1.2.3.4", "1.2.3.4", api.OK},
		{"0.0.0.0", "0.0.0.0", api.OK},
		{"255.255.255.255", "255.255.255.255", api.OK},
		{"%31.2.3.4", "1.2.3.4", api.OK},
		{"256.1.1.1", "", api.ErrHost},
		{"1.256.1.1", "", api.ErrHost},
		{"1.1.1.256", "", api.ErrHost},
		{"1.1.1.99999999999999999999999", "", api.ErrHost},
		{"1.1.1.4294967297", "", api.ErrHost},
		{"1.1.1.18446744073709551617", "", api.ErrHost},
		{"01.2.3.4", "", api.ErrHost},
		{"1.2.3.04", "", api.ErrHost},
		{"1.2.3.00", "", api.ErrHost},
		{"1", "", api.ErrHost},
		{"0", "", api.ErrHost},
		{"1.2", "", api.ErrHost},
		{"1.2.3", "", api.ErrHost},
		{"1.2.3.4.5", "", api.ErrHost},
		{"1.2.3.4.", "", api.ErrHost},
		{"a.1", "", api.ErrHost},
		{"a.b.c.1", "", api.ErrHost},
		{"1.2.3.-4", "1.2.3.-4", api.OK},
		{"1.2.3.a", "1.2.3.a", api.OK},
		{"999.00.a", "999.00.a", api.OK},
		{"0x7f.1", "", api.ErrHost},
		{"1.2.3.0x4", "1.2.3.0x4", api.OK},
		{"4a", "4a", api.OK},
		{"4_", "4_", api.OK},
	} {
		if got, why := url.Host(c.s); got != c.want || why != c.why {
			t.Errorf("Host(%q) = %q, %d, want %q, %d", c.s, got, why, c.want, c.why)
		}
	}
}

// P4.1
func TestHostAgainstTheDefinition(t *testing.T) {
	all := texts(4, "a", "Z", "0", "9", ".", "-", "_", "%4", "%2E", "1", "é")
	all = append(all, texts(7, "0", "2", "55", ".")...)
	all = append(all, pick(50000, 9, "0.", "1.", "25.", "255.", "256.", "09.", "00.", "0", "7", "255", "256", "07", "a.", "%31", ".")...)
	for i := range 256 {
		all = append(all, string([]byte{byte(i)}), string([]byte{'a', byte(i), 'b'}), fmt.Sprintf("%%%02x", i))
	}
	for _, s := range all {
		got, why := url.Host(s)
		want, wanted := hostOf(s)
		if got != want || why != wanted {
			t.Fatalf("Host(%q) = %q, %d, want %q, %d", s, got, why, want, wanted)
		}
	}
}

// P4.2
func TestParse(t *testing.T) {
	for _, c := range []struct {
		s    string
		want api.URL
	}{
		{"HTTP://Ex.org:80/a/./b/../c?x#y", api.URL{Scheme: "http", Host: "ex.org", Path: "/a/c", Query: "x", Frag: "y", HasQuery: true, HasFrag: true}},
		{"http://a", api.URL{Scheme: "http", Host: "a", Path: "/"}},
		{"https://a/", api.URL{Scheme: "https", Host: "a", Path: "/"}},
		{"hTtPs://A.B", api.URL{Scheme: "https", Host: "a.b", Path: "/"}},
		// Slashes of both kinds, and as many as there are.
		{"http:/a", api.URL{Scheme: "http", Host: "a", Path: "/"}},
		{`http:\a\b\..`, api.URL{Scheme: "http", Host: "a", Path: "/"}},
		{`http:/\/\//a//b`, api.URL{Scheme: "http", Host: "a", Path: "//b"}},
		{`http://a//\/`, api.URL{Scheme: "http", Host: "a", Path: "////"}},
		{"http://a//..", api.URL{Scheme: "http", Host: "a", Path: "/"}},
		// Ports.
		{"http://a:", api.URL{Scheme: "http", Host: "a", Path: "/"}},
		{"http://a:/b", api.URL{Scheme: "http", Host: "a", Path: "/b"}},
		{"http://a:80", api.URL{Scheme: "http", Host: "a", Path: "/"}},
		{"https://a:80", api.URL{Scheme: "https", Host: "a", Port: 80, Path: "/"}},
		{"https://a:443", api.URL{Scheme: "https", Host: "a", Path: "/"}},
		{"http://a:443", api.URL{Scheme: "http", Host: "a", Port: 443, Path: "/"}},
		{"HTTPS://a:443?", api.URL{Scheme: "https", Host: "a", Path: "/", HasQuery: true}},
		{"http://a:0", api.URL{Scheme: "http", Host: "a", Path: "/"}},
		{"http://a:00080", api.URL{Scheme: "http", Host: "a", Path: "/"}},
		{"http://a:0000000000000000000000008080/", api.URL{Scheme: "http", Host: "a", Port: 8080, Path: "/"}},
		{"http://a:1#", api.URL{Scheme: "http", Host: "a", Port: 1, Path: "/", HasFrag: true}},
		{`http://a:65535\b`, api.URL{Scheme: "http", Host: "a", Port: 65535, Path: "/b"}},
		// Queries and fragments, that begin where they do.
		{"http://a?", api.URL{Scheme: "http", Host: "a", Path: "/", HasQuery: true}},
		{"http://a#", api.URL{Scheme: "http", Host: "a", Path: "/", HasFrag: true}},
		{"http://a?#", api.URL{Scheme: "http", Host: "a", Path: "/", HasQuery: true, HasFrag: true}},
		{"http://a#?", api.URL{Scheme: "http", Host: "a", Path: "/", Frag: "?", HasFrag: true}},
		{"http://a?b?c#d#e", api.URL{Scheme: "http", Host: "a", Path: "/", Query: "b?c", Frag: "d#e", HasQuery: true, HasFrag: true}},
		{`http://a?b/../c\d@e:f`, api.URL{Scheme: "http", Host: "a", Path: "/", Query: `b/../c\d@e:f`, HasQuery: true}},
		{`http://a#/../c\d@e:f`, api.URL{Scheme: "http", Host: "a", Path: "/", Frag: `/../c\d@e:f`, HasFrag: true}},
		{"http://a/b@c:d", api.URL{Scheme: "http", Host: "a", Path: "/b@c:d"}},
		{"http://a/é?é#é", api.URL{Scheme: "http", Host: "a", Path: "/%C3%A9", Query: "%C3%A9", Frag: "%C3%A9", HasQuery: true, HasFrag: true}},
		{"http://a/'`{}\"?'`{}\"#'`{}\"", api.URL{Scheme: "http", Host: "a", Path: "/'%60%7B%7D%22", Query: "%27`{}%22", Frag: "'%60{}%22", HasQuery: true, HasFrag: true}},
		{"http://a/%2f%3F?%26%#%", api.URL{Scheme: "http", Host: "a", Path: "/%2f%3F", Query: "%26%", Frag: "%", HasQuery: true, HasFrag: true}},
		// Cleaned.
		{" \n\x00http://a/b c \x1f", api.URL{Scheme: "http", Host: "a", Path: "/b%20c"}},
		{"h\tt\nt\rp\t:\n/\r/\ta\n:\r8\t1/\n.\t.\r/b?\tc#\rd", api.URL{Scheme: "http", Host: "a", Port: 81, Path: "/b", Query: "c", Frag: "d", HasQuery: true, HasFrag: true}},
		{"http://a?b #c \x00", api.URL{Scheme: "http", Host: "a", Path: "/", Query: "b%20", Frag: "c", HasQuery: true, HasFrag: true}},
		{"http://%41%2eb/", api.URL{Scheme: "http", Host: "a.b", Path: "/"}},
		{"http://127.0.0.1:8080", api.URL{Scheme: "http", Host: "127.0.0.1", Port: 8080, Path: "/"}},
	} {
		if got, why := url.Parse(c.s); got != c.want || why != api.OK {
			t.Errorf("Parse(%q) = %+v, %d, want %+v", c.s, got, why, c.want)
		}
	}
}

// P4.2
func TestParseFaults(t *testing.T) {
	long := strings.Repeat("x", 2049)
	for _, c := range []struct {
		s   string
		why api.Errno
	}{
		// No scheme.
		{"", api.ErrForm},
		{" \t", api.ErrForm},
		{"a", api.ErrForm},
		{":", api.ErrForm},
		{"://a", api.ErrForm},
		{"//a", api.ErrForm},
		{"/a:b", api.ErrForm},
		{"http", api.ErrForm},
		{"http//a", api.ErrForm},
		{"1http://a", api.ErrForm},
		{"+http://a", api.ErrForm},
		{"-http://a", api.ErrForm},
		{".http://a", api.ErrForm},
		{"ht tp://a", api.ErrForm},
		{"http ://a", api.ErrForm},
		{"ht_tp://a", api.ErrForm},
		{"ht%74p://a", api.ErrForm},
		{"httpé://a", api.ErrForm},
		{"http\x00://a", api.ErrForm},
		{"/http://a", api.ErrForm},
		{"#http://a", api.ErrForm},
		{"\u017fhttp://a", api.ErrForm},
		// Another one.
		{"ftp://a", api.ErrKind},
		{"mailto:a@b", api.ErrKind},
		{"a:", api.ErrKind},
		{"httpss://a", api.ErrKind},
		{"htt://a", api.ErrKind},
		{"h+t-t.p1://a", api.ErrKind},
		{"http+://a", api.ErrKind},
		{"feed:http://a", api.ErrKind},
		{"javascript:", api.ErrKind},
		// No slash.
		{"http:", api.ErrForm},
		{"http:a", api.ErrForm},
		{"https:?a", api.ErrForm},
		{"http:: //a", api.ErrForm},
		{"http: //a", api.ErrForm},
		// Somebody at a place.
		{"http://@", api.ErrForm},
		{"http://@a", api.ErrForm},
		{"http://a@", api.ErrForm},
		{"http://a:b@c", api.ErrForm},
		{"http://a@b:99999", api.ErrForm},
		// No host.
		{"http:/", api.ErrEnd},
		{"http://", api.ErrEnd},
		{`http:///\`, api.ErrEnd},
		{"http://?a", api.ErrEnd},
		{"http://#a", api.ErrEnd},
		{"http://:80", api.ErrEnd},
		{"http://:", api.ErrEnd},
		{"http://:x", api.ErrEnd},
		// Not a name.
		{"http://a b", api.ErrHost},
		{"http://a.", api.ErrHost},
		{"http://.", api.ErrHost},
		{"http://é", api.ErrHost},
		{"http://1", api.ErrHost},
		{"http://1.2.3.256/", api.ErrHost},
		{"http://a%40b", api.ErrHost},
		{"http://a%3a80", api.ErrHost},
		{"http://a%2fb", api.ErrHost},
		{"http://[::1]/", api.ErrHost},
		{"http://a%00", api.ErrHost},
		// Not a port.
		{"http://a:b", api.ErrForm},
		{"http://a:65536", api.ErrForm},
		{"http://a:99999999999999999999", api.ErrForm},
		{"http://a:18446744073709551616", api.ErrForm},
		{"http://a:-1", api.ErrForm},
		{"http://a:+1", api.ErrForm},
		{"http://a: 1", api.ErrForm},
		{"http://a:1 ?", api.ErrForm},
		{"http://a:1:2", api.ErrForm},
		{"http://a::", api.ErrForm},
		{"http://a::1", api.ErrForm},
		{"http://a:0x1", api.ErrForm},
		{"http://a:8%30", api.ErrForm},
		// The first that holds.
		{long, api.ErrMany},
		{"ftp://" + long, api.ErrMany},
		{"http:" + long, api.ErrMany},
		{"http://@/" + long, api.ErrMany},
		{"http:///" + long, api.ErrMany},
		{"http://:x@/", api.ErrForm},
		{"http://a b@c/", api.ErrForm},
		{"http://a b:x/", api.ErrHost},
		{"http://a b/" + strings.Repeat(" ", 1000) + "x", api.ErrHost},
		{"http://a:x/" + strings.Repeat(" ", 1000) + "x", api.ErrForm},
		{"ftp:a@b", api.ErrKind},
	} {
		if got, why := url.Parse(c.s); got != (api.URL{}) || why != c.why {
			t.Errorf("Parse(%.60q) = %+v, %d, want %d", c.s, got, why, c.why)
		}
	}
}

// P4.2: how long the text, and the URL's own, may be.
func TestParseLong(t *testing.T) {
	fill := func(head, one string, count int, tail string) string { return head + strings.Repeat(one, count) + tail }
	for _, c := range []struct {
		name, s string
		size    int
		why     api.Errno
	}{
		{"2048 bytes", fill("http://a/", "b", 2039, ""), 2048, api.OK},
		{"2049 bytes", fill("http://a/", "b", 2040, ""), 0, api.ErrMany},
		{"2048 bytes of which blanks are gone", fill("  http://a/", "b", 2039, "\t\n"), 2048, api.OK},
		{"2049 bytes of which blanks are gone", fill("  http://a/", "b", 2040, "\t\n"), 0, api.ErrMany},
		{"tabs within", fill("http://a/", "b\t", 2039, ""), 2048, api.OK},
		{"2049 bytes of which more go later", fill("http://a/", "./", 1020, ""), 0, api.ErrMany},
		{"2047 bytes of which more go later", fill("http://a/", "./", 1019, ""), 9, api.OK},
		{"slashes that go", fill("http:", "/", 2042, "a"), 9, api.OK},
		{"slashes that would go", fill("http:", "/", 2043, "a"), 0, api.ErrMany},
		{"a port that goes", fill("http://a:", "0", 2036, "80/"), 9, api.OK},
		{"a path of marks", fill("http://a/", "\x7f", 679, "bb"), 2048, api.OK},
		{"too long a path of marks", fill("http://a/", "\x7f", 680, ""), 0, api.ErrMany},
		{"a query of marks", fill("http://a/?", "'", 679, "b"), 2048, api.OK},
		{"too long a query of marks", fill("http://a/?", "'", 679, "bb"), 0, api.ErrMany},
		{"a fragment of marks", fill("http://a/#", "`", 679, "b"), 2048, api.OK},
		{"too long a fragment of marks", fill("http://a/#", "`", 679, "bb"), 0, api.ErrMany},
		{"a slash more", fill("http://a?", "b", 2038, ""), 2048, api.OK},
		{"a slash too many", fill("http://a?", "b", 2039, ""), 0, api.ErrMany},
		{"a host of marks", fill("http://", "%61", 63, fill("/", "b", 1851, "")), 1922, api.OK},
		{"far too long", strings.Repeat("http://a/", 1<<16), 0, api.ErrMany},
		{"far too many blanks", strings.Repeat(" \n", 1<<16) + "http://a/", 9, api.OK},
	} {
		u, why := url.Parse(c.s)
		if why != c.why {
			t.Errorf("%s: %d, want %d", c.name, why, c.why)
		} else if why == api.OK && len(url.String(u)) != c.size || why != api.OK && u != (api.URL{}) {
			t.Errorf("%s: %+v", c.name, u)
		}
	}
}

// P4.2
func TestParseAgainstTheDefinition(t *testing.T) {
	for _, s := range many() {
		got, why := url.Parse(s)
		want, wanted := parsed(s)
		if got != want || why != wanted {
			t.Fatalf("Parse(%q) = %+v, %d, want %+v, %d", s, got, why, want, wanted)
		}
	}
}

// P4.3
func TestString(t *testing.T) {
	for _, c := range []struct {
		u    api.URL
		want string
	}{
		{api.URL{}, "://"},
		{api.URL{Scheme: "http", Host: "a", Path: "/"}, "http://a/"},
		{api.URL{Scheme: "http", Host: "a", Port: 80, Path: "/"}, "http://a:80/"},
		{api.URL{Scheme: "https", Host: "a", Port: 8443, Path: "/b", Query: "c", Frag: "d", HasQuery: true, HasFrag: true}, "https://a:8443/b?c#d"},
		{api.URL{Scheme: "http", Host: "a", Path: "/", HasQuery: true}, "http://a/?"},
		{api.URL{Scheme: "http", Host: "a", Path: "/", HasFrag: true}, "http://a/#"},
		{api.URL{Scheme: "http", Host: "a", Path: "/", Query: "b", Frag: "c"}, "http://a/"},
		{api.URL{Scheme: "http", Host: "a", Path: "/", Query: "b", Frag: "c", HasFrag: true}, "http://a/#c"},
		// What may not be stands as it is.
		{api.URL{Scheme: "A b", Host: "\xff", Port: -1, Path: "c", Query: "#", Frag: "é", HasQuery: true, HasFrag: true}, "A b://\xff:-1c?##é"},
		{api.URL{Port: math.MaxInt64}, "://:9223372036854775807"},
		{api.URL{Port: math.MinInt64}, "://:-9223372036854775808"},
	} {
		if got := url.String(c.u); got != c.want {
			t.Errorf("String(%+v) = %q, want %q", c.u, got, c.want)
		}
	}
}

// good is a URL of which all fields are told.
func good() api.URL {
	return api.URL{Scheme: "http", Host: "a.b", Port: 81, Path: "/c/d", Query: "e", Frag: "f", HasQuery: true, HasFrag: true}
}

// P4.3
func TestMay(t *testing.T) {
	turned := func(turn func(*api.URL)) api.URL {
		u := good()
		turn(&u)
		return u
	}
	for _, c := range []struct {
		name string
		u    api.URL
		want bool
	}{
		{"good", good(), true},
		{"none", api.URL{}, false},
		{"https", turned(func(u *api.URL) { u.Scheme = "https" }), true},
		{"a great scheme", turned(func(u *api.URL) { u.Scheme = "HTTP" }), false},
		{"another scheme", turned(func(u *api.URL) { u.Scheme = "ftp" }), false},
		{"no scheme", turned(func(u *api.URL) { u.Scheme = "" }), false},
		{"a scheme with a blank", turned(func(u *api.URL) { u.Scheme = " http" }), false},
		{"no host", turned(func(u *api.URL) { u.Host = "" }), false},
		{"a great host", turned(func(u *api.URL) { u.Host = "A" }), false},
		{"a marked host", turned(func(u *api.URL) { u.Host = "%61" }), false},
		{"a host with a slash", turned(func(u *api.URL) { u.Host = "/a" }), false},
		{"a host with a port", turned(func(u *api.URL) { u.Host, u.Port = "a:82", 0 }), false},
		{"a host with a path", turned(func(u *api.URL) { u.Host, u.Port, u.Path = "a/c", 0, "/d" }), false},
		{"digits", turned(func(u *api.URL) { u.Host = "1.2.3.4" }), true},
		{"too few digits", turned(func(u *api.URL) { u.Host = "1.2.3" }), false},
		{"no port", turned(func(u *api.URL) { u.Port = 0 }), true},
		{"the scheme's own port", turned(func(u *api.URL) { u.Port = 80 }), false},
		{"the other scheme's own port", turned(func(u *api.URL) { u.Port = 443 }), true},
		{"the last port", turned(func(u *api.URL) { u.Port = 65535 }), true},
		{"past the last port", turned(func(u *api.URL) { u.Port = 65536 }), false},
		{"a port below 0", turned(func(u *api.URL) { u.Port = -81 }), false},
		{"no path", turned(func(u *api.URL) { u.Path = "" }), false},
		{"a path without a slash", turned(func(u *api.URL) { u.Path = "c" }), false},
		{"a backslash", turned(func(u *api.URL) { u.Path = `/c\d` }), false},
		{"a path with dots", turned(func(u *api.URL) { u.Path = "/c/../d" }), false},
		{"a path with marked dots", turned(func(u *api.URL) { u.Path = "/c/%2E" }), false},
		{"a path with a ?", turned(func(u *api.URL) { u.Path = "/c?d" }), false},
		{"a path with a blank", turned(func(u *api.URL) { u.Path = "/c d" }), false},
		{"a path of slashes", turned(func(u *api.URL) { u.Path = "///" }), true},
		{"an empty query", turned(func(u *api.URL) { u.Query = "" }), true},
		{"no query", turned(func(u *api.URL) { u.Query, u.HasQuery = "", false }), true},
		{"a query that is not told", turned(func(u *api.URL) { u.HasQuery = false }), false},
		{"a query with a #", turned(func(u *api.URL) { u.Query = "#" }), false},
		{"a query with a '", turned(func(u *api.URL) { u.Query = "'" }), false},
		{"an empty fragment", turned(func(u *api.URL) { u.Frag = "" }), true},
		{"no fragment", turned(func(u *api.URL) { u.Frag, u.HasFrag = "", false }), true},
		{"a fragment that is not told", turned(func(u *api.URL) { u.HasFrag = false }), false},
		{"a fragment with all that may be", turned(func(u *api.URL) { u.Frag = `#?'{}\` }), true},
		{"a fragment with a tab", turned(func(u *api.URL) { u.Frag = "a\tb" }), false},
		{"a fragment with a blank at its end", turned(func(u *api.URL) { u.Frag = "a " }), false},
		{"a fragment that is no text", turned(func(u *api.URL) { u.Frag = "\xff" }), false},
		{"2048 bytes", turned(func(u *api.URL) { u.Frag = strings.Repeat("f", 2048-len("http://a.b:81/c/d?e#")) }), true},
		{"2049 bytes", turned(func(u *api.URL) { u.Frag = strings.Repeat("f", 2049-len("http://a.b:81/c/d?e#")) }), false},
	} {
		if got := url.May(c.u); got != c.want {
			t.Errorf("%s: May(%+v) = %v", c.name, c.u, got)
		}
	}
}

// P4.3
func TestBare(t *testing.T) {
	want := good()
	want.Frag, want.HasFrag = "", false
	if got := url.Bare(good()); got != want {
		t.Errorf("Bare(%+v) = %+v", good(), got)
	}
	if got := url.Bare(want); got != want {
		t.Errorf("Bare(%+v) = %+v", want, got)
	}
	for _, u := range []api.URL{{Frag: "a"}, {HasFrag: true}, {}} {
		if got := url.Bare(u); got != (api.URL{}) {
			t.Errorf("Bare(%+v) = %+v", u, got)
		}
	}
	odd := api.URL{Scheme: "A", Host: " ", Port: -1, Path: "#", Query: "#"}
	if got := url.Bare(odd); got != odd {
		t.Errorf("Bare(%+v) = %+v", odd, got)
	}
}

// P4.3
func TestOrigin(t *testing.T) {
	for _, c := range []struct {
		u    api.URL
		want string
	}{
		{good(), "http://a.b:81"},
		{api.URL{Scheme: "https", Host: "a", Path: "/"}, "https://a"},
		{api.URL{Scheme: "https", Host: "a", Port: 443, HasQuery: true, HasFrag: true}, "https://a:443"},
		{api.URL{}, "://"},
		{api.URL{Scheme: "A", Host: " ", Port: -1, Path: "#", Query: "#"}, "A:// :-1"},
	} {
		if got := url.Origin(c.u); got != c.want {
			t.Errorf("Origin(%+v) = %q, want %q", c.u, got, c.want)
		}
	}
}

// P4.3
func TestTail(t *testing.T) {
	for _, c := range []struct {
		u    api.URL
		s    string
		want api.URL
	}{
		{good(), "", api.URL{Scheme: "http", Host: "a.b", Port: 81, Path: "/"}},
		{good(), "/", api.URL{Scheme: "http", Host: "a.b", Port: 81, Path: "/"}},
		{good(), "/x?y#z", api.URL{Scheme: "http", Host: "a.b", Port: 81, Path: "/x", Query: "y", Frag: "z", HasQuery: true, HasFrag: true}},
		{good(), "x", api.URL{Scheme: "http", Host: "a.b", Port: 81, Path: "/x"}},
		{good(), "?", api.URL{Scheme: "http", Host: "a.b", Port: 81, Path: "/", HasQuery: true}},
		{good(), "#", api.URL{Scheme: "http", Host: "a.b", Port: 81, Path: "/", HasFrag: true}},
		{good(), "#?", api.URL{Scheme: "http", Host: "a.b", Port: 81, Path: "/", Frag: "?", HasFrag: true}},
		{good(), `\x\..\y`, api.URL{Scheme: "http", Host: "a.b", Port: 81, Path: "/y"}},
		{good(), "//x/y", api.URL{Scheme: "http", Host: "a.b", Port: 81, Path: "//x/y"}},
		{good(), "http://x/y", api.URL{Scheme: "http", Host: "a.b", Port: 81, Path: "/http://x/y"}},
		{good(), "@x:y", api.URL{Scheme: "http", Host: "a.b", Port: 81, Path: "/@x:y"}},
		{good(), "/ ?'\"#`é", api.URL{Scheme: "http", Host: "a.b", Port: 81, Path: "/%20", Query: "%27%22", Frag: "%60%C3%A9", HasQuery: true, HasFrag: true}},
		// Neither cleaned, nor bounded: a place may be any.
		{good(), " \t/x\n", api.URL{Scheme: "http", Host: "a.b", Port: 81, Path: "/%20%09/x%0A"}},
		{good(), strings.Repeat("x", 4096), api.URL{Scheme: "http", Host: "a.b", Port: 81, Path: "/" + strings.Repeat("x", 4096)}},
		{api.URL{}, "", api.URL{Path: "/"}},
		{api.URL{Scheme: "A", Host: " ", Port: -1, Path: "#", Query: "#"}, "x", api.URL{Scheme: "A", Host: " ", Port: -1, Path: "/x"}},
		{api.URL{Scheme: "http", Host: "a", Port: 80}, "x", api.URL{Scheme: "http", Host: "a", Port: 80, Path: "/x"}},
	} {
		if got := url.Tail(c.u, c.s); got != c.want {
			t.Errorf("Tail(%+v, %.60q) = %+v, want %+v", c.u, c.s, got, c.want)
		}
	}
}

// P4.3: what Tail takes is what Parse takes behind a place.
func TestTailIsParsed(t *testing.T) {
	base := api.URL{Scheme: "http", Host: "h"}
	for _, s := range texts(5, "/", "a", "?", "#", "..", "é", "'") {
		got := url.Tail(good(), s)
		want := tailOf(api.URL{Scheme: "http", Host: "a.b", Port: 81}, s)
		if got != want {
			t.Fatalf("Tail(%q) = %+v, want %+v", s, got, want)
		}
		if s != "" && !strings.Contains("/?#", s[:1]) {
			continue
		}
		if u, why := url.Parse("http://h" + s); why != api.OK || u != url.Tail(base, s) {
			t.Fatalf("Parse(%q) = %+v, %d", "http://h"+s, u, why)
		}
	}
}

// P4.4
func TestParsedMayBe(t *testing.T) {
	count := 0
	for _, s := range many() {
		u, why := url.Parse(s)
		if why != api.OK {
			continue
		}
		count++
		if !url.May(u) {
			t.Fatalf("%q is parsed to %+v, which may not be", s, u)
		}
		if again, why := url.Parse(url.String(u)); why != api.OK || again != u {
			t.Fatalf("%q is parsed to %+v, and that to %+v, %d", s, u, again, why)
		}
	}
	if count < 10000 {
		t.Errorf("only %d were parsed", count)
	}
}

// P4.5
func TestPathTwiceIsOnce(t *testing.T) {
	for _, s := range append(texts(6, "/", ".", "a", "..", "%2e", `\`), many()...) {
		once := url.Path(s)
		if twice := url.Path(once); twice != once {
			t.Fatalf("Path(%q) = %q, and of that %q", s, once, twice)
		}
	}
}

// P4.6
func TestCleanedIsParsedAsWhatItWas(t *testing.T) {
	for _, s := range many() {
		dirty := "\x00 " + strings.ReplaceAll(s, "/", "\n/\t") + "\r\x1f"
		for _, one := range []string{s, dirty} {
			got, why := url.Parse(url.Clean(one))
			want, wanted := url.Parse(one)
			if got != want || why != wanted {
				t.Fatalf("%q is parsed to %+v, %d, but cleaned to %+v, %d", one, want, wanted, got, why)
			}
		}
	}
}

// P4.7: of what is parsed, and of what has one byte in one field.
func TestSignsOfWhatMayBe(t *testing.T) {
	held := func(u api.URL) {
		if !url.May(u) {
			return
		}
		for _, c := range []byte(u.Scheme + u.Host + u.Path + u.Query + u.Frag + url.String(u)) {
			if c < 33 || c > 126 {
				t.Fatalf("%+v may be", u)
			}
		}
	}
	for _, s := range many() {
		u, _ := url.Parse(s)
		held(u)
	}
	for i := range 256 {
		c := string([]byte{byte(i)})
		for at := range 5 {
			for _, s := range []string{c, "a" + c, c + "a"} {
				u := good()
				*[]*string{&u.Scheme, &u.Host, &u.Path, &u.Query, &u.Frag}[at] += s
				held(u)
			}
		}
	}
}
