package value_test

import (
	"regexp"
	"slices"
	"strings"
	"time"

	"cringle/api"
	"cringle/date"
	"cringle/join"
	"cringle/look"
	"cringle/url"
)

// What the chapter's words say, written out once more: each part is asked by itself what it lies below, each name by itself what it tells.

const blanks = "\t\n\f\r "

func trimmed(s string) string { return strings.Trim(s, blanks) }

func has(d api.Doc, at int, classes ...string) bool {
	for _, class := range classes {
		if look.Has(d, at, class) {
			return true
		}
	}
	return false
}

func wordedParts(d api.Doc, at int) []int {
	var parts []int
	for _, i := range look.Below(d, at) {
		free := has(d, i, "value", "value-title")
		for up := d.Nodes[i].Up; up != at; up = d.Nodes[up].Up {
			if has(d, up, "value", "value-title") || len(look.Starts(d, up, "h-", "p-", "u-", "dt-", "e-")) > 0 {
				free = false
			}
		}
		if free {
			parts = append(parts, i)
		}
	}
	return parts
}

// attrOf is the attribute that a table of names tells, if the element has it.
func attrOf(d api.Doc, at int, table map[string]string) (string, bool) {
	name, is := table[d.Nodes[at].Name]
	if !is {
		return "", false
	}
	return look.Attr(d, at, name)
}

func wordedPart(d api.Doc, at int, isDate bool) string {
	if has(d, at, "value-title") {
		s, _ := look.Attr(d, at, "title")
		return s
	}
	table := map[string]string{"img": "alt", "area": "alt", "data": "value", "abbr": "title"}
	if isDate {
		table["time"], table["ins"], table["del"] = "datetime", "datetime", "datetime"
	}
	if s, is := attrOf(d, at, table); is {
		return s
	}
	return look.Plain(d, at)
}

func wordedText(d api.Doc, at int) string {
	parts, all := wordedParts(d, at), ""
	for _, part := range parts {
		all += wordedPart(d, part, false)
	}
	if len(parts) > 0 {
		return all
	}
	if s, is := attrOf(d, at, map[string]string{"abbr": "title", "link": "title", "data": "value", "input": "value", "img": "alt", "area": "alt"}); is {
		return s
	}
	return look.Plain(d, at)
}

func wordedDate(d api.Doc, at int) string {
	var pieces []string
	for _, part := range wordedParts(d, at) {
		pieces = append(pieces, wordedPart(d, part, true))
	}
	if s := wordedPut(pieces...); s != "" {
		return s
	}
	if s, is := attrOf(d, at, map[string]string{"time": "datetime", "ins": "datetime", "del": "datetime", "abbr": "title", "data": "value", "input": "value"}); is {
		return trimmed(s)
	}
	return look.Plain(d, at)
}

func wordedURL(d api.Doc, at int, base api.URL) string {
	link, is := attrOf(d, at, map[string]string{
		"a": "href", "area": "href", "link": "href", "img": "src", "audio": "src", "video": "src", "source": "src", "iframe": "src", "object": "data",
	})
	if !is {
		link, is = attrOf(d, at, map[string]string{"video": "poster"})
	}
	if is {
		return wordedFull(trimmed(link), base)
	}
	if len(wordedParts(d, at)) > 0 {
		return wordedFull(wordedText(d, at), base)
	}
	if s, is := attrOf(d, at, map[string]string{"abbr": "title", "data": "value", "input": "value"}); is {
		return wordedFull(s, base)
	}
	return wordedFull(look.Plain(d, at), base)
}

func wordedFull(s string, base api.URL) string {
	if u, why := join.Join(base, s); why == api.OK {
		return url.String(u)
	}
	return s
}

var timeForm = regexp.MustCompile(`(?s)^([^-+Zz]+?) *([-+Zz].*)?$`)

// wordedPut goes on from piece to piece with what is there: a moment, behind which nothing counts, or a day, a time and a zone.
func wordedPut(pieces ...string) string {
	var there struct{ day, time, zone *string }
	set := func(slot **string, s string) {
		if *slot == nil {
			*slot = &s
		}
	}
	for _, s := range pieces {
		s = trimmed(s)
		if m, why := date.Parse(s); why == api.OK && m.HasTime && there.day == nil && there.time == nil && there.zone == nil {
			return s
		}
		if days, why := date.Day(s); why == api.OK {
			set(&there.day, time.Unix(days*86400, 0).UTC().Format("2006-01-02"))
		}
		if _, why := date.Zone(s); why == api.OK {
			set(&there.zone, s)
		}
		cut := timeForm.FindStringSubmatch(s)
		if cut == nil {
			continue
		}
		seconds, why := date.Clock(cut[1])
		_, zoneWhy := date.Zone(cut[2])
		if why != api.OK || cut[2] != "" && zoneWhy != api.OK {
			continue
		}
		set(&there.time, time.Unix(int64(seconds), 0).UTC().Format("15:04:05"))
		if cut[2] != "" {
			set(&there.zone, cut[2])
		}
	}
	if there.day == nil {
		return ""
	}
	all := *there.day
	if there.time != nil {
		all += " " + *there.time
		if there.zone != nil {
			all += strings.Replace(*there.zone, "z", "Z", 1)
		}
	}
	return all
}

// isBelow tells whether one lies in the other, or in what lies in that.
func isBelow(d api.Doc, at, of int) bool {
	for at > 0 {
		at = d.Nodes[at].Up
		if at == of {
			return true
		}
	}
	return false
}

func areApart(d api.Doc, parts []int) bool {
	return !slices.ContainsFunc(parts, func(a int) bool {
		return slices.ContainsFunc(parts, func(b int) bool { return isBelow(d, a, b) })
	})
}
