package value

import (
	"cmp"
	"strings"

	"cringle/api"
	"cringle/date"
)

const daySeconds = 86400

// when is what is there of a date: a moment's text as it stood, or a day, a time and a zone, as they are put together.
type when struct {
	moment string
	day    string
	time   string
	zone   string
}

// read is what a piece tells: nothing of a date, if it is none.
func read(s string) when {
	if m, why := date.Parse(s); why == api.OK && m.HasTime {
		return when{moment: s}
	}
	if days, why := date.Day(s); why == api.OK {
		day, _ := written(days * daySeconds)
		return when{day: day}
	}
	return readTime(s)
}

// readTime is what a time's text with or without a zone's, or a zone's alone, tells.
func readTime(s string) when {
	s, zone := cutZone(s)
	if _, why := date.Zone(zone); zone != "" && why != api.OK {
		return when{}
	}
	zone = strings.ReplaceAll(zone, "z", "Z")
	if s == "" {
		return when{zone: zone}
	}
	seconds, why := date.Clock(s)
	if why != api.OK {
		return when{}
	}
	_, time := written(int64(seconds))
	return when{time: time, zone: zone}
}

// cutZone parts a text where a zone's text may begin.
func cutZone(s string) (string, string) {
	i := strings.IndexAny(s, "+-Zz")
	if i < 0 {
		return s, ""
	}
	return strings.TrimRight(s[:i], " "), s[i:]
}

// written are a moment's day and time as they are put together.
func written(seconds int64) (day, time string) {
	text, _ := date.Format(seconds)
	day, time, _ = strings.Cut(strings.TrimSuffix(text, "Z"), "T")
	return day, time
}

// with is what is there with a piece put to it. A moment counts as the first piece alone.
func (w when) with(piece when) when {
	if w == (when{}) {
		return piece
	}
	return when{w.moment, cmp.Or(w.day, piece.day), cmp.Or(w.time, piece.time), cmp.Or(w.zone, piece.zone)}
}

// text is the date. A moment has a day and a time already, so that what came behind it says nothing.
func (w when) text() string {
	switch {
	case w.moment != "":
		return w.moment
	case w.day == "" || w.time == "":
		return w.day
	}
	return w.day + " " + w.time + w.zone
}
