package join_test

import (
	"fmt"
	"math/rand"
	"regexp"
	"strings"
	"testing"

	"cringle/api"
	"cringle/join"
	"cringle/url"
)

// texts are all texts of at most size of the pieces.
func texts(size int, pieces ...string) []string {
	all := []string{""}
	for from := 0; size > 0; size-- {
		to := len(all)
		for _, s := range all[from:to] {
			for _, piece := range pieces {
				all = append(all, s+piece)
			}
		}
		from = to
	}
	return all
}

// pick are texts of pieces taken by chance, but always the same ones.
func pick(count, size int, pieces ...string) []string {
	chance := rand.New(rand.NewSource(5))
	all := make([]string, count)
	for i := range all {
		for range chance.Intn(size + 1) {
			all[i] += pieces[chance.Intn(len(pieces))]
		}
	}
	return all
}

// of is the URL of a text that has one.
func of(t *testing.T, s string) api.URL {
	t.Helper()
	u, why := url.Parse(s)
	if why != api.OK {
		t.Fatalf("Parse(%.60q): %d", s, why)
	}
	return u
}

// bases are URLs of all shapes.
func bases(t *testing.T) []api.URL {
	var all []api.URL
	for _, s := range []string{
		"http://a.b/c/d?e",
		"http://a.b/c/d?e#f",
		"https://a.b/c/d/",
		"http://a.b",
		"http://a.b/?#",
		"https://a.b:81/x#",
		"http://a.b//",
		"http://a.b//c//d?",
		"http://a.b/c:d?/x/y#/z?",
		"https://1.2.3.4:0443/%20%2F/'?%27{}`#'",
	} {
		all = append(all, of(t, s))
	}
	return all
}

// bad are URLs that may not be.
func bad() []api.URL {
	return []api.URL{
		{},
		{Scheme: "http", Host: "a.b"},
		{Scheme: "http", Path: "/"},
		{Scheme: "", Host: "a.b", Path: "/"},
		{Scheme: "ftp", Host: "a.b", Path: "/"},
		{Scheme: "HTTP", Host: "a.b", Path: "/"},
		{Scheme: "http", Host: "A.b", Path: "/"},
		{Scheme: "http", Host: "a b", Path: "/"},
		{Scheme: "http", Host: "a.b", Port: 80, Path: "/"},
		{Scheme: "http", Host: "a.b", Port: -1, Path: "/"},
		{Scheme: "http", Host: "a.b", Port: 65536, Path: "/"},
		{Scheme: "http", Host: "a.b", Path: "c"},
		{Scheme: "http", Host: "a.b", Path: `/c\d`},
		{Scheme: "http", Host: "a.b", Path: "/c/../d"},
		{Scheme: "http", Host: "a.b", Path: "/", Query: "c"},
		{Scheme: "http", Host: "a.b", Path: "/", Query: "'", HasQuery: true},
		{Scheme: "http", Host: "a.b", Path: "/", Frag: "c"},
		{Scheme: "http", Host: "a.b", Path: "/", Frag: "\xff", HasFrag: true},
		{Scheme: "http", Host: "a.b", Path: "/", Frag: strings.Repeat("c", 2048), HasFrag: true},
	}
}

// links are texts of which some are links.
func links() []string {
	all := texts(4, "http:", "/", `\`, "a", ":", "?", "#", "..", " ")
	all = append(all, texts(3, "HTTPS:", "https:", "Http:", "x-1.+:", "1:", "//", "a.b", "@", "é", "%2e", "'", "\x00", "\n")...)
	return append(all, pick(6000, 16, "/", "/", `\`, ".", "..", "%2E", "a", "B", "?", "#", "%", "`", "{", "'", "\"", "<", " ", "\t", "\x00", "\x7f", "é", "\xff", "http:", ":", "@", "https:")...)
}

// The shapes that the definition speaks of.
var (
	scheme   = regexp.MustCompile(`(?s)^([A-Za-z][A-Za-z0-9+.-]*):(.*)$`)
	slash    = regexp.MustCompile(`^[/\\]`)
	twoSlash = regexp.MustCompile(`^[/\\]{2}`)
	tail     = regexp.MustCompile(`(?s)^([^?#]*)(\?[^#]*)?(#.*)?$`)
	lastPart = regexp.MustCompile(`[^/]*$`)
)

// What is marked, beside bytes up to 32 and above 126.
const (
	markedInQuery = "\"<>#'"
	markedInFrag  = "\"<>`"
)

// marked is layer 4's definition of it.
func marked(s, signs string) string {
	out := ""
	for i := range len(s) {
		if s[i] <= 32 || s[i] > 126 || strings.IndexByte(signs, s[i]) >= 0 {
			out += fmt.Sprintf("%%%02X", s[i])
		} else {
			out += s[i : i+1]
		}
	}
	return out
}

// turned is the document's definition of base that is turned by a link that is cleaned.
func turned(base api.URL, link string) api.URL {
	u := base
	u.Frag, u.HasFrag = "", false
	m := tail.FindStringSubmatch(link)
	switch {
	case slash.MatchString(link):
		u.Path = url.Path(m[1])
	case m[1] != "":
		u.Path = url.Path(lastPart.ReplaceAllString(base.Path, "") + m[1])
	}
	if m[1] != "" || m[2] != "" {
		u.Query, u.HasQuery = "", false
	}
	if m[2] != "" {
		u.Query, u.HasQuery = marked(m[2][1:], markedInQuery), true
	}
	if m[3] != "" {
		u.Frag, u.HasFrag = marked(m[3][1:], markedInFrag), true
	}
	return u
}

// joined is the document's definition of it, for a base that may be.
func joined(base api.URL, link string) (api.URL, api.Errno) {
	link = url.Clean(link)
	if len(link) > 2048 {
		return api.URL{}, api.ErrMany
	}
	if m := scheme.FindStringSubmatch(link); m != nil {
		if strings.ToLower(m[1]) == base.Scheme && !slash.MatchString(m[2]) {
			return joined(base, m[2])
		}
		return url.Parse(link)
	}
	if twoSlash.MatchString(link) {
		return url.Parse(base.Scheme + ":" + link)
	}
	u := turned(base, link)
	if len(url.String(u)) > 2048 {
		return api.URL{}, api.ErrMany
	}
	return u, api.OK
}

// P5.1: the links of RFC 3986, and what this document takes otherwise.
func TestJoin(t *testing.T) {
	for _, c := range []struct{ base, link, want string }{
		{"http://a.b/c/d?e", "../f#g", "http://a.b/f#g"},
		// A path that hangs on base's.
		{"http://a/b/c/d;p?q", "g", "http://a/b/c/g"},
		{"http://a/b/c/d;p?q", "./g", "http://a/b/c/g"},
		{"http://a/b/c/d;p?q", "g/", "http://a/b/c/g/"},
		{"http://a/b/c/d;p?q", "g?y", "http://a/b/c/g?y"},
		{"http://a/b/c/d;p?q", "g#s", "http://a/b/c/g#s"},
		{"http://a/b/c/d;p?q", "g?y#s", "http://a/b/c/g?y#s"},
		{"http://a/b/c/d;p?q", ";x", "http://a/b/c/;x"},
		{"http://a/b/c/d;p?q", "g;x?y#s", "http://a/b/c/g;x?y#s"},
		{"http://a/b/c/d;p?q", ".", "http://a/b/c/"},
		{"http://a/b/c/d;p?q", "./", "http://a/b/c/"},
		{"http://a/b/c/d;p?q", "..", "http://a/b/"},
		{"http://a/b/c/d;p?q", "../", "http://a/b/"},
		{"http://a/b/c/d;p?q", "../g", "http://a/b/g"},
		{"http://a/b/c/d;p?q", "../..", "http://a/"},
		{"http://a/b/c/d;p?q", "../../", "http://a/"},
		{"http://a/b/c/d;p?q", "../../g", "http://a/g"},
		{"http://a/b/c/d;p?q", "../../../g", "http://a/g"},
		{"http://a/b/c/d;p?q", "../../../../g", "http://a/g"},
		{"http://a/b/c/d;p?q", "g.", "http://a/b/c/g."},
		{"http://a/b/c/d;p?q", ".g", "http://a/b/c/.g"},
		{"http://a/b/c/d;p?q", "g..", "http://a/b/c/g.."},
		{"http://a/b/c/d;p?q", "..g", "http://a/b/c/..g"},
		{"http://a/b/c/d;p?q", "./../g", "http://a/b/g"},
		{"http://a/b/c/d;p?q", "./g/.", "http://a/b/c/g/"},
		{"http://a/b/c/d;p?q", "g/./h", "http://a/b/c/g/h"},
		{"http://a/b/c/d;p?q", "g/../h", "http://a/b/c/h"},
		{"http://a/b/c/d;p?q", "g;x=1/../y", "http://a/b/c/y"},
		{"http://a/b/c/d;p?q", "g?y/../x", "http://a/b/c/g?y/../x"},
		{"http://a/b/c/d;p?q", "g#s/../x", "http://a/b/c/g#s/../x"},
		{"http://a/b/c/d;p?q", `..\g`, "http://a/b/g"},
		{"http://a/b/c/d;p?q", `g\`, "http://a/b/c/g/"},
		{"http://a/b/c/d;p?q", "%2E%2e/g", "http://a/b/g"},
		{"http://a/b/c/d;p?q", "g?", "http://a/b/c/g?"},
		{"http://a/b/c/d;p?q", "g#", "http://a/b/c/g#"},
		{"http://a/b/c/d;p?q", "g?#", "http://a/b/c/g?#"},
		{"http://a/b/c/d;p?q", "g h", "http://a/b/c/g%20h"},
		{"http://a/b/c/d;p?q", "é", "http://a/b/c/%C3%A9"},
		{"http://a", "g", "http://a/g"},
		{"http://a?b/c", "g", "http://a/g"},
		{"http://a/#b/c", "g", "http://a/g"},
		{"http://a/b/", "g", "http://a/b/g"},
		{"http://a/b/", "..", "http://a/"},
		{"http://a//", "g", "http://a//g"},
		{"http://a//b", "g", "http://a//g"},
		{"http://a//b", "../g", "http://a/g"},
		{"http://a/b//", "../g", "http://a/b/g"},
		{"http://a/b", "..//g", "http://a//g"},
		{"http://a/b", ".//g", "http://a//g"},
		{"http://a:81/b", "g", "http://a:81/g"},
		{"https://a/b", "g", "https://a/g"},
		// Another path.
		{"http://a/b/c/d;p?q", "/", "http://a/"},
		{"http://a/b/c/d;p?q", `\`, "http://a/"},
		{"http://a/b/c/d;p?q", "/g", "http://a/g"},
		{"http://a/b/c/d;p?q", `\g\h`, "http://a/g/h"},
		{"http://a/b/c/d;p?q", "/./g", "http://a/g"},
		{"http://a/b/c/d;p?q", "/../g", "http://a/g"},
		{"http://a/b/c/d;p?q", "/..//g", "http://a//g"},
		{"http://a/b/c/d;p?q", "/.//g", "http://a//g"},
		{"http://a/b/c/d;p?q", "/?#", "http://a/?#"},
		{"http://a/b/c/d;p?q#r", "/g?y#s", "http://a/g?y#s"},
		{"http://a:81/b", "/g:h", "http://a:81/g:h"},
		{"http://a/b", "/http://c", "http://a/http://c"},
		// Another query.
		{"http://a/b/c/d;p?q", "?y", "http://a/b/c/d;p?y"},
		{"http://a/b/c/d;p?q#r", "?y", "http://a/b/c/d;p?y"},
		{"http://a/b/c/d;p?q", "?", "http://a/b/c/d;p?"},
		{"http://a/b/c/d;p?q", "?y#s", "http://a/b/c/d;p?y#s"},
		{"http://a/b/c/d;p?q", "?#", "http://a/b/c/d;p?#"},
		{"http://a/b/c/d;p?q", "??y", "http://a/b/c/d;p??y"},
		{"http://a/b/c/d;p?q", "?http://x", "http://a/b/c/d;p?http://x"},
		{"http://a/b/c/d;p?q", "?'é#`é", "http://a/b/c/d;p?%27%C3%A9#%60%C3%A9"},
		{"http://a", "?y", "http://a/?y"},
		{"http://a//b//", "?y", "http://a//b//?y"},
		// Another fragment.
		{"http://a/b/c/d;p?q", "", "http://a/b/c/d;p?q"},
		{"http://a/b/c/d;p?q#r", "", "http://a/b/c/d;p?q"},
		{"http://a/b/c/d;p?q#", "", "http://a/b/c/d;p?q"},
		{"http://a/b?", "", "http://a/b?"},
		{"http://a/b?", "#", "http://a/b?#"},
		{"http://a/b", "#", "http://a/b#"},
		{"http://a/b#", "#", "http://a/b#"},
		{"http://a//", "", "http://a//"},
		{"http://a/b/c/d;p?q", "#s", "http://a/b/c/d;p?q#s"},
		{"http://a/b/c/d;p?q#r", "#s", "http://a/b/c/d;p?q#s"},
		{"http://a/b/c/d;p?q", "#s?t#u", "http://a/b/c/d;p?q#s?t#u"},
		{"http://a/b/c/d;p?q", "# '", "http://a/b/c/d;p?q#%20'"},
		{"http://a/%20%2f?%27`{}", "#x", "http://a/%20%2f?%27`{}#x"},
		// Another place.
		{"http://a/b/c/d;p?q#r", "//g", "http://g/"},
		{"https://a:81/b", "//g", "https://g/"},
		{"https://a/b", "//g:443/h?i#j", "https://g/h?i#j"},
		{"https://a/b", "//g:80", "https://g:80/"},
		{"http://a/b", `\\g\h`, "http://g/h"},
		{"http://a/b", `/\g`, "http://g/"},
		{"http://a/b", `\/g`, "http://g/"},
		{"http://a/b", "////g//h", "http://g//h"},
		{"http://a/b", "//G%2eh", "http://g.h/"},
		// Another scheme, or the same.
		{"http://a/b", "http://g", "http://g/"},
		{"http://a/b", "https://g/h", "https://g/h"},
		{"https://a/b", "HTTP:///g", "http://g/"},
		{"http://a/b", "http:/g", "http://g/"},
		{"http://a/b", `http:\g`, "http://g/"},
		{"https://a/b", "http:/g", "http://g/"},
		// The same, and no slash.
		{"http://a/b/c/d;p?q", "http:g", "http://a/b/c/g"},
		{"http://a/b/c/d;p?q", "HttP:../g", "http://a/b/g"},
		{"https://a/b/c", "hTTps:g?y#s", "https://a/b/g?y#s"},
		{"http://a/b?c#d", "http:", "http://a/b?c"},
		{"http://a/b?c#d", "http:?y", "http://a/b?y"},
		{"http://a/b?c#d", "http:#y", "http://a/b?c#y"},
		{"http://a/b", "http:http:g", "http://a/g"},
		{"http://a/b", "http:http:", "http://a/b"},
		{"http://a/b", "http:http://g", "http://g/"},
		{"http://a/b", "http:https://g", "https://g/"},
		{"http://a/b", "http:1:g", "http://a/1:g"},
		// What is behind is cleaned, too.
		{"http://a/b", "http: g", "http://a/g"},
		{"http://a/b", "http:\x00\x1f", "http://a/b"},
		{"http://a/b/c", "http: /g", "http://a/g"},
		{"http://a/b", "http: //g", "http://g/"},
		{"http://a/b", "http:\t/g", "http://g/"},
		// No scheme.
		{"http://a/b/c", ":", "http://a/b/:"},
		{"http://a/b/c", "://x", "http://a/b/://x"},
		{"http://a/b/c", "1:x", "http://a/b/1:x"},
		{"http://a/b/c", "+:x", "http://a/b/+:x"},
		{"http://a/b/c", "-x:x", "http://a/b/-x:x"},
		{"http://a/b/c", ".x:x", "http://a/b/.x:x"},
		{"http://a/b/c", "x_y:x", "http://a/b/x_y:x"},
		{"http://a/b/c", "x%79:x", "http://a/b/x%79:x"},
		{"http://a/b/c", "x y:x", "http://a/b/x%20y:x"},
		{"http://a/b/c", "http ://x", "http://a/b/http%20://x"},
		{"http://a/b/c", "é:x", "http://a/b/%C3%A9:x"},
		{"http://a/b/c", "aé:x", "http://a/b/a%C3%A9:x"},
		{"http://a/b/c", "\u212a:x", "http://a/b/%E2%84%AA:x"},
		{"http://a/b/c", "a\xff:x", "http://a/b/a%FF:x"},
		{"http://a/b/c", "x/y:z", "http://a/b/x/y:z"},
		{"http://a/b/c", "x?y:z", "http://a/b/x?y:z"},
		{"http://a/b/c", "x#y:z", "http://a/b/x#y:z"},
		{"http://a/b/c", "http", "http://a/b/http"},
		// Cleaned.
		{"http://a/b/c", " \x00", "http://a/b/c"},
		{"http://a/b/c", "\n#x\t", "http://a/b/c#x"},
		{"http://a/b/c", " \x1fg\n", "http://a/b/g"},
		{"http://a/b/c", "/\t/g", "http://g/"},
		{"http://a/b/c", "ht\ntp\r:g", "http://a/b/g"},
		{"http://a/b/c", ".\n./g", "http://a/g"},
		{"http://a/b/c", "g\x0bh", "http://a/b/g%0Bh"},
	} {
		u, why := join.Join(of(t, c.base), c.link)
		if got := url.String(u); got != c.want || why != api.OK {
			t.Errorf("Join(%s, %q) = %s, %d, want %s", c.base, c.link, got, why, c.want)
		}
		if want := of(t, c.want); u != want {
			t.Errorf("Join(%s, %q) = %+v, want %+v", c.base, c.link, u, want)
		}
	}
}

// P5.1
func TestJoinRefuses(t *testing.T) {
	long := strings.Repeat("g", 2049)
	for _, c := range []struct {
		base, link string
		why        api.Errno
	}{
		{"http://a/b", "g:h", api.ErrKind},
		{"http://a/b", "mailto:a@b", api.ErrKind},
		{"http://a/b", "x:", api.ErrKind},
		{"http://a/b", "X+y-1.z:", api.ErrKind},
		{"http://a/b", "http:g:h", api.ErrKind},
		{"http://a/b", "http:javascript:", api.ErrKind},
		{"http://a/b", "https:g", api.ErrForm},
		{"http://a/b", "https:", api.ErrForm},
		{"https://a/b", "http:g", api.ErrForm},
		{"https://a/b", "http: //g", api.ErrForm},
		{"http://a/b", "http:https:g", api.ErrForm},
		{"http://a/b", "//", api.ErrEnd},
		{"http://a/b", `/\\`, api.ErrEnd},
		{"http://a/b", "//?g", api.ErrEnd},
		{"http://a/b", "//#g", api.ErrEnd},
		{"http://a/b", "//:80", api.ErrEnd},
		{"http://a/b", "http:/", api.ErrEnd},
		{"http://a/b", "http://", api.ErrEnd},
		{"http://a/b", "//g h", api.ErrHost},
		{"http://a/b", "//g./", api.ErrHost},
		{"http://a/b", "//1", api.ErrHost},
		{"http://a/b", "https://é", api.ErrHost},
		{"http://a/b", "//g:x", api.ErrForm},
		{"http://a/b", "//g:65536", api.ErrForm},
		{"http://a/b", "//g@h", api.ErrForm},
		// The first that holds.
		{"http://a/b", long, api.ErrMany},
		{"http://a/b", "/" + long, api.ErrMany},
		{"http://a/b", "//g h/" + long, api.ErrMany},
		{"http://a/b", "x:" + long, api.ErrMany},
		{"http://a/b", "https:" + long, api.ErrMany},
	} {
		if got, why := join.Join(of(t, c.base), c.link); got != (api.URL{}) || why != c.why {
			t.Errorf("Join(%s, %.60q) = %+v, %d, want %d", c.base, c.link, got, why, c.why)
		}
	}
}

// P5.1: a base that may not be is told of ahead of all that a link may be.
func TestJoinBadBase(t *testing.T) {
	for _, base := range bad() {
		for _, link := range []string{"", "a", "/a", "//a", "?a", "#a", "http:", "http:a", "http://a", "x:", strings.Repeat("a", 2049)} {
			if got, why := join.Join(base, link); got != (api.URL{}) || why != api.ErrArg {
				t.Errorf("Join(%.60q, %.60q) = %+v, %d", url.String(base), link, got, why)
			}
		}
	}
}

// P5.1: how long a link, and what it comes to, may be.
func TestJoinLong(t *testing.T) {
	fill := func(head, one string, size int) string {
		return head + strings.Repeat(one, (size-len(head))/len(one))
	}
	for _, c := range []struct {
		name, base, link string
		size             int
		why              api.Errno
	}{
		{"a URL of 2048 bytes", "http://a/", fill("http://a/", "b", 2048), 2048, api.OK},
		{"a URL of 2049 bytes", "http://a/", fill("http://a/", "b", 2049), 0, api.ErrMany},
		{"2049 bytes of a link to a place of its own", "http://a/", fill("//b/../", "../", 2050), 0, api.ErrMany},
		{"2048 bytes with the scheme of a link to a place of its own", "http://a/", fill("//b/", "c", 2043), 2048, api.OK},
		{"2049 bytes with the scheme of a link to a place of its own", "http://a/", fill("//b/", "c", 2044), 0, api.ErrMany},
		{"as many, though little is left of them", "http://a/", fill("//b/./", "./", 2044), 0, api.ErrMany},
		{"2048 bytes of a path of which little is left", "http://a/", fill("/.", "/.", 2048), 9, api.OK},
		{"2049 bytes of a path of which little is left", "http://a/", fill("/./", "./", 2049), 0, api.ErrMany},
		{"2048 bytes of which blanks are gone", "http://a/", " \t" + fill("/.", "/.", 2048) + "\n\x00", 9, api.OK},
		{"2048 bytes of which tabs are gone", "http://a/", "/" + strings.Repeat("\t", 4096) + "b", 10, api.OK},
		{"many times the scheme", "http://a/b", strings.Repeat("http:", 409), 10, api.OK},
		{"too many times the scheme", "http://a/b", strings.Repeat("http:", 410), 0, api.ErrMany},
		{"a path up to 2048 bytes", "http://a/b", "/" + strings.Repeat("c", 2039), 2048, api.OK},
		{"a path up to 2049 bytes", "http://a/b", "/" + strings.Repeat("c", 2040), 0, api.ErrMany},
		{"a path behind base's up to 2048 bytes", "http://a/b/c", strings.Repeat("d", 2037), 2048, api.OK},
		{"a path behind base's up to 2049 bytes", "http://a/b/c", strings.Repeat("d", 2038), 0, api.ErrMany},
		{"a query up to 2048 bytes", "http://a/b?c", "?" + strings.Repeat("d", 2037), 2048, api.OK},
		{"a query up to 2049 bytes", "http://a/b?c", "?" + strings.Repeat("d", 2038), 0, api.ErrMany},
		{"a fragment up to 2048 bytes", "http://a/b?c", "#" + strings.Repeat("d", 2035), 2048, api.OK},
		{"a fragment up to 2049 bytes", "http://a/b?c", "#" + strings.Repeat("d", 2036), 0, api.ErrMany},
		{"marks up to 2047 bytes", "http://a/", "?" + strings.Repeat("'", 679), 2047, api.OK},
		{"marks up to 2050 bytes", "http://a/", "?" + strings.Repeat("'", 680), 0, api.ErrMany},
		{"a long base, whose fragment goes", fill("http://a/#", "b", 2048), "c", 10, api.OK},
		{"a long base, whose path goes", fill("http://a/", "b", 2048), "c", 10, api.OK},
		{"a long base that stays", fill("http://a/", "b", 2048), "", 2048, api.OK},
		{"a long base, and one byte more", fill("http://a/", "b", 2048), "#", 0, api.ErrMany},
		{"a long base that just so stays", fill("http://a/", "b", 2047), "#", 2048, api.OK},
	} {
		u, why := join.Join(of(t, c.base), c.link)
		size := len(url.String(u))
		if why != api.OK && u == (api.URL{}) {
			size = 0
		}
		if size != c.size || why != c.why {
			t.Errorf("%s: %d bytes, %d, want %d, %d", c.name, size, why, c.size, c.why)
		}
	}
}

// P5.1: a scheme, of each byte that it may have, behind a letter and first.
func TestJoinEachByteOfAScheme(t *testing.T) {
	base := of(t, "http://a/b")
	for i := range 256 {
		c := string([]byte{byte(i)})
		letter := 'a' <= i && i <= 'z' || 'A' <= i && i <= 'Z'
		first := letter || i <= 32 // that one is cleaned away
		behind := letter || '0' <= i && i <= '9' || strings.Contains("+-.:\t\n\r", c)
		if _, why := join.Join(base, c+"x:y"); (why == api.ErrKind) != first {
			t.Errorf("the byte %d first: %d", i, why)
		}
		if _, why := join.Join(base, "x"+c+":y"); (why == api.ErrKind) != behind {
			t.Errorf("the byte %d behind: %d", i, why)
		}
	}
}

// P5.1
func TestJoinAgainstTheDefinition(t *testing.T) {
	all := links()
	for _, base := range bases(t) {
		fine := 0
		for _, link := range all {
			got, why := join.Join(base, link)
			if want, wanted := joined(base, link); got != want || why != wanted {
				t.Fatalf("Join(%s, %q) = %+v, %d, want %+v, %d", url.String(base), link, got, why, want, wanted)
			}
			if why == api.OK {
				fine++
			}
		}
		if fine < 5000 {
			t.Errorf("%s: only %d were joined", url.String(base), fine)
		}
	}
}

// P5.2
func TestKey(t *testing.T) {
	for _, c := range []struct {
		u    api.URL
		want string
	}{
		{of(t, "http://a/b?c#d"), "http://a/b?c"},
		{of(t, "http://a/b?c#"), "http://a/b?c"},
		{of(t, "http://a/b?c"), "http://a/b?c"},
		{of(t, "http://a/b?#c"), "http://a/b?"},
		{of(t, "HTTPS://A:81#?b"), "https://a:81/"},
		{of(t, "http://a//b/#/c"), "http://a//b/"},
		{api.URL{}, "://"},
		{api.URL{Frag: "a", HasFrag: true}, "://"},
		{api.URL{Scheme: "X", Host: " ", Port: -1, Path: "#", Query: "#", HasQuery: true, Frag: "a", HasFrag: true}, "X:// :-1#?#"},
		{api.URL{Scheme: "http", Host: "a", Query: "b", Frag: "c"}, "http://a"},
	} {
		if got := join.Key(c.u); got != c.want {
			t.Errorf("Key(%+v) = %q, want %q", c.u, got, c.want)
		}
	}
}

// P5.2
func TestSame(t *testing.T) {
	for _, c := range []struct {
		a, b string
		want bool
	}{
		{"http://a/b", "http://a/b", true},
		{"http://a/b#c", "http://a/b", true},
		{"http://a/b", "http://a/b#", true},
		{"http://a/b?c#d", "http://a/b?c#e", true},
		{"http://a", "HTTP://A:80/./", true},
		{"http://a/b", "https://a/b", false},
		{"http://a/b", "http://a.b/b", false},
		{"http://a/b", "http://a:81/b", false},
		{"http://a/b", "http://a/B", false},
		{"http://a/b", "http://a/b/", false},
		{"http://a/b", "http://a/b?", false},
		{"http://a/b?c", "http://a/b?d", false},
		{"http://a/%61", "http://a/a", false},
	} {
		a, b := of(t, c.a), of(t, c.b)
		if join.Same(a, b) != c.want || join.Same(b, a) != c.want {
			t.Errorf("Same(%s, %s) is not %v", c.a, c.b, c.want)
		}
	}
	// Texts are held against each other, whatever they are texts of.
	a, b := api.URL{Host: "a:1", Path: "?b"}, api.URL{Host: "a", Port: 1, Query: "b", HasQuery: true, Frag: "c", HasFrag: true}
	if !join.Same(a, b) || !join.Same(api.URL{}, api.URL{}) || join.Same(a, api.URL{}) {
		t.Errorf("Same of URLs that may not be: %v, %v, %v", join.Same(a, b), join.Same(api.URL{}, api.URL{}), join.Same(a, api.URL{}))
	}
}

// P5.2
func TestLink(t *testing.T) {
	for _, c := range []struct{ base, u, want string }{
		// One origin.
		{"http://a/b", "http://a/b", "/b"},
		{"http://a/b?c#d", "http://a/e?f#g", "/e?f#g"},
		{"http://a/b", "http://a", "/"},
		{"http://a", "http://a/?#", "/?#"},
		{"http://a", "http://a/?b", "/?b"},
		{"https://a:81/", "https://a:81/b//c", "/b//c"},
		{"http://a//b", "http://a/c", "/c"},
		{"http://a/", "http://a/http://a/", "/http://a/"},
		// One origin, and two slashes.
		{"http://a/b", "http://a//b", "//a//b"},
		{"https://a:81/b", "https://a:81//?c#d", "//a:81//?c#d"},
		{"http://a//b", "http://a///", "//a///"},
		// One scheme.
		{"http://a/b", "http://c/b", "//c/b"},
		{"http://a/b", "http://a:81/b", "//a:81/b"},
		{"http://a:81/b", "http://a/b?#", "//a/b?#"},
		{"https://a/b", "https://a.b/c#d", "//a.b/c#d"},
		{"http://a/b", "http://ab/c", "//ab/c"},
		// None.
		{"http://a/b", "https://a/b", "https://a/b"},
		{"https://a/b", "http://a/b?c#d", "http://a/b?c#d"},
		{"https://a:81/b", "http://a:81//b", "http://a:81//b"},
	} {
		if got := join.Link(of(t, c.base), of(t, c.u)); got != c.want {
			t.Errorf("Link(%s, %s) = %s, want %s", c.base, c.u, got, c.want)
		}
	}
}

// P5.2: if one of them may not be, all is told.
func TestLinkBad(t *testing.T) {
	for _, one := range bad() {
		good := api.URL{Scheme: one.Scheme, Host: one.Host, Port: one.Port, Path: "/"}
		for _, other := range append(bad(), good, of(t, "http://a.b/"), of(t, "http://c/")) {
			if got, want := join.Link(one, other), url.String(other); got != want {
				t.Errorf("Link(%.60q, %.60q) = %.60q", url.String(one), want, got)
			}
			if got, want := join.Link(other, one), url.String(one); got != want {
				t.Errorf("Link(%.60q, %.60q) = %.60q", url.String(other), want, got)
			}
		}
	}
}

// P5.3
func TestFollow(t *testing.T) {
	long := strings.Repeat("g", 2049)
	for _, c := range []struct {
		links []string
		want  string
		why   api.Errno
	}{
		{nil, "http://a/b/c?d#e", api.OK},
		{[]string{}, "http://a/b/c?d#e", api.OK},
		{[]string{""}, "http://a/b/c?d", api.OK},
		{[]string{"f"}, "http://a/b/f", api.OK},
		{[]string{"f/", "g"}, "http://a/b/f/g", api.OK},
		{[]string{"f", "g"}, "http://a/b/g", api.OK},
		{[]string{"../f/", "#g", "?h", "i"}, "http://a/f/i", api.OK},
		{[]string{"#f", "?g", "#h"}, "http://a/b/c?g#h", api.OK},
		{[]string{"https:/f/", "//g", "https:h"}, "https://g/h", api.OK},
		{[]string{"//f:81/g/h", "./", "i?j", ""}, "http://f:81/g/i?j", api.OK},
		// The first error, wherever it is.
		{[]string{"x:"}, "", api.ErrKind},
		{[]string{"f", "x:"}, "", api.ErrKind},
		{[]string{"x:", "f"}, "", api.ErrKind},
		{[]string{"x:", "http://f"}, "", api.ErrKind},
		{[]string{"f", "//", "x:", long}, "", api.ErrEnd},
		{[]string{"f", long, "//"}, "", api.ErrMany},
		{[]string{"http:f", "https://g", "http:h"}, "", api.ErrForm},
		{[]string{"f/", "//g h", "i"}, "", api.ErrHost},
	} {
		var want api.URL
		if c.why == api.OK {
			want = of(t, c.want)
		}
		if got, why := join.Follow(of(t, "http://a/b/c?d#e"), c.links...); got != want || why != c.why {
			t.Errorf("Follow(%.60q) = %+v, %d, want %s, %d", c.links, got, why, c.want, c.why)
		}
	}
}

// P5.3: a base that may not be is told of by the first link; without one nothing is joined.
func TestFollowBadBase(t *testing.T) {
	for _, base := range bad() {
		if got, why := join.Follow(base, "a", "x:"); got != (api.URL{}) || why != api.ErrArg {
			t.Errorf("Follow(%.60q) = %+v, %d", url.String(base), got, why)
		}
		if got, why := join.Follow(base); got != base || why != api.OK {
			t.Errorf("Follow(%.60q) of no links = %+v, %d", url.String(base), got, why)
		}
	}
}

// P5.3: what is followed is joined one by one, and links are left as they are.
func TestFollowIsJoinedOneByOne(t *testing.T) {
	all := links()
	for _, base := range bases(t) {
		for i := range len(all) / 3 {
			three := all[3*i : 3*i+3]
			kept := [3]string(three)
			got, why := join.Follow(base, three...)
			want, wanted := base, api.OK
			for _, link := range kept {
				if wanted == api.OK {
					want, wanted = joined(want, link)
				}
			}
			if got != want || why != wanted || kept != [3]string(three) {
				t.Fatalf("Follow(%s, %q) = %+v, %d, want %+v, %d", url.String(base), kept, got, why, want, wanted)
			}
		}
	}
}

// urls are URLs that may be: bases, and what links come to by them.
func urls(t *testing.T) []api.URL {
	seen := map[api.URL]int{}
	all := bases(t)
	for i, link := range links() {
		u, why := join.Join(all[i%10], link)
		if why != api.OK || seen[u] > 0 {
			continue
		}
		seen[u]++
		all = append(all, u)
	}
	if len(all) < 5000 {
		t.Fatalf("only %d URLs", len(all))
	}
	return all
}

// P5.4
func TestURLIsJoinedToItself(t *testing.T) {
	for i, u := range append(urls(t), of(t, "http://a/"+strings.Repeat("b", 2039))) {
		for j, base := range bases(t) {
			if i > 2000 && j != i%10 {
				continue
			}
			if got, why := join.Join(base, url.String(u)); got != u || why != api.OK {
				t.Fatalf("Join(%s, %s) = %+v, %d", url.String(base), url.String(u), got, why)
			}
		}
	}
}

// P5.5
func TestJoinedMayBe(t *testing.T) {
	all := links()
	for _, base := range bases(t) {
		bare := url.Bare(base)
		other := bare
		other.Frag, other.HasFrag = "/x?y#z", true
		for _, link := range all {
			u, why := join.Join(base, link)
			if why == api.OK && !url.May(u) {
				t.Fatalf("Join(%s, %q) = %+v, which may not be", url.String(base), link, u)
			}
			for _, one := range []api.URL{bare, other} {
				if got, told := join.Join(one, link); got != u || told != why {
					t.Fatalf("Join(%s, %q) = %+v, %d, but by another fragment %+v, %d", url.String(base), link, u, why, got, told)
				}
			}
		}
	}
}

// P5.6
func TestLinkIsJoinedToTheURL(t *testing.T) {
	all := urls(t)
	for i, u := range all {
		for j, base := range append(bases(t), u, all[(i+1)%len(all)]) {
			if i > 2000 && j < 10 && j != i%10 {
				continue
			}
			link := join.Link(base, u)
			if got, why := join.Join(base, link); got != u || why != api.OK {
				t.Fatalf("Join(%s, %s) = %+v, %d, want %s", url.String(base), link, got, why, url.String(u))
			}
		}
	}
}

// P5.7
func TestKeyIsAURLs(t *testing.T) {
	for _, u := range urls(t) {
		key := join.Key(u)
		got, why := url.Parse(key)
		if why != api.OK || url.String(got) != key || !url.May(got) || got != url.Bare(u) || !join.Same(got, u) {
			t.Fatalf("Key(%s) = %s, which is %+v, %d", url.String(u), key, got, why)
		}
	}
}
