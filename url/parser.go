package url

import (
	"strings"

	"cringle/api"
	"cringle/ascii"
	"cringle/percent"
)

// rest is what is left of a text.
type rest struct{ text string }

// upTo takes what stands ahead of the first of the ends, or all, if there is none.
func (r *rest) upTo(ends string) string {
	at := strings.IndexAny(r.text, ends)
	if at < 0 {
		at = len(r.text)
	}
	taken := r.text[:at]
	r.text = r.text[at:]
	return taken
}

// took takes a text that is next, and tells whether it was.
func (r *rest) took(s string) bool {
	left, was := strings.CutPrefix(r.text, s)
	r.text = left
	return was
}

// skip takes all of some signs that are next, and tells whether there were any.
func (r *rest) skip(signs string) bool {
	left := strings.TrimLeft(r.text, signs)
	were := len(left) < len(r.text)
	r.text = left
	return were
}

// parser has what is left of a text, and the URL that was read of what is not.
type parser struct {
	rest
	api.URL
}

// readScheme takes the scheme with its colon.
func (p *parser) readScheme() api.Errno {
	scheme := ascii.Lower(p.upTo(":"))
	if !p.took(":") || !isScheme(scheme) {
		return api.ErrForm
	}
	if scheme != "http" && scheme != "https" {
		return api.ErrKind
	}
	p.Scheme = scheme
	return api.OK
}

// isScheme tells whether a text that is to lower is one of some kind.
func isScheme(s string) bool {
	for i := range len(s) {
		if !isSchemeByte(s[i]) {
			return false
		}
	}
	return s != "" && ascii.IsLetter(s[0])
}

func isSchemeByte(c byte) bool {
	switch c {
	case '+', '-', '.':
		return true
	}
	return ascii.IsLetter(c) || ascii.IsDigit(c)
}

// readPlace takes the slashes, the host and the port.
func (p *parser) readPlace() api.Errno {
	if !p.skip(slashes) {
		return api.ErrForm
	}
	place := p.upTo(slashes + "?#")
	if strings.Contains(place, "@") {
		return api.ErrForm
	}
	name, digits, _ := strings.Cut(place, ":")
	host, why := Host(name)
	if why != api.OK {
		return why
	}
	p.Host = host
	return p.readPort(digits)
}

// readPort reads a port's digits.
func (p *parser) readPort(digits string) api.Errno {
	if digits == "" {
		return api.OK
	}
	port, why := ascii.Number(digits, maxPort)
	if why != api.OK {
		return api.ErrForm
	}
	if port != ownPort(p.Scheme) {
		p.Port = int(port)
	}
	return api.OK
}

// ownPort is the port that a scheme has by itself.
func ownPort(scheme string) int64 {
	if scheme == "https" {
		return 443
	}
	return 80
}

// readTail takes the path, the query and the fragment: all that is left.
func (p *parser) readTail() {
	p.Path = Path(p.upTo("?#"))
	if p.took("?") {
		p.Query, p.HasQuery = percent.Mark(p.upTo("#"), freeInQuery), true
	}
	if p.took("#") {
		p.Frag, p.HasFrag = percent.Mark(p.text, freeInFrag), true
		p.text = ""
	}
}
