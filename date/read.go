package date

import (
	"strings"

	"cringle/api"
	"cringle/ascii"
)

// reader has what is left of a text. What its methods answer beside false means nothing.
type reader struct{ left string }

// whole reads a text of which nothing may be left.
func whole[T any](s string, read func(*reader) (T, bool)) (T, api.Errno) {
	r := reader{left: s}
	got, ok := read(&r)
	if !ok || r.left != "" {
		var none T
		return none, api.ErrForm
	}
	return got, api.OK
}

// takes takes a part, if that is next.
func (r *reader) takes(part string) bool {
	left, has := strings.CutPrefix(r.left, part)
	r.left = left
	return has
}

// skip takes all that is next of some signs, and tells how many those were.
func (r *reader) skip(signs string) int {
	size := len(r.left)
	r.left = strings.TrimLeft(r.left, signs)
	return size - len(r.left)
}

// number takes a number of that many digits; one out of its bounds is not taken.
func (r *reader) number(digits, least, most int) (int, bool) {
	if len(r.left) < digits {
		return 0, false
	}
	n, why := ascii.Number(r.left[:digits], int64(most))
	if why != api.OK || n < int64(least) {
		return 0, false
	}
	r.left = r.left[digits:]
	return int(n), true
}

func (r *reader) day() (int64, bool) {
	year, ok := r.number(4, 1, lastYear)
	if !ok || !r.takes("-") {
		return 0, false
	}
	if day, ok := r.number(3, 1, ahead(year, lastMonth+1)); ok {
		return newYear(year) + int64(day-1), true
	}
	month, ok := r.number(2, 1, lastMonth)
	if !ok || !r.takes("-") {
		return 0, false
	}
	day, ok := r.number(2, 1, 31)
	if !ok {
		return 0, false
	}
	days, why := Days(year, month, day)
	return days, why == api.OK
}

func (r *reader) clock() (int, bool) {
	hour, ok := r.number(2, 0, 23)
	if !ok || !r.takes(":") {
		return 0, false
	}
	minute, ok := r.number(2, 0, 59)
	if !ok {
		return 0, false
	}
	second := 0
	if r.takes(":") {
		second, ok = r.second()
	}
	return hour*hourSeconds + minute*minuteSeconds + second, ok
}

// second takes a time's seconds, and what may be behind their point.
func (r *reader) second() (int, bool) {
	second, ok := r.number(2, 0, 60)
	if !ok || r.takes(".") && r.skip("0123456789") == 0 {
		return 0, false
	}
	// A leap second has no number of its own.
	return min(second, 59), true
}

func (r *reader) spoken() (int, bool) {
	hour, ok := r.number(2, 1, 12)
	if !ok {
		hour, ok = r.number(1, 1, 9)
	}
	minute, second := 0, 0
	if ok && r.takes(":") {
		minute, ok = r.number(2, 0, 59)
		if ok && r.takes(":") {
			second, ok = r.number(2, 0, 59)
		}
	}
	if !ok {
		return 0, false
	}
	half, ok := r.half()
	return (hour%12+half)*hourSeconds + minute*minuteSeconds + second, ok
}

// half takes all that is left, and tells how many hours the half of the day begins with that it names.
func (r *reader) half() (int, bool) {
	name := ascii.Lower(r.left)
	r.left = ""
	switch name {
	case "am", "a.m.":
		return 0, true
	case "pm", "p.m.":
		return 12, true
	}
	return 0, false
}

func (r *reader) zone() (int, bool) {
	if r.takes("Z") || r.takes("z") {
		return 0, true
	}
	sign := 1
	if r.takes("-") {
		sign = -1
	} else if !r.takes("+") {
		return 0, false
	}
	hour, ok := r.number(2, 0, 14)
	if !ok || r.left == "" {
		return sign * hour * hourSeconds, ok
	}
	r.takes(":")
	minute, ok := r.number(2, 0, 59)
	return sign * (hour*hourSeconds + minute*minuteSeconds), ok
}

func (r *reader) moment() (Moment, bool) {
	days, ok := r.day()
	got := Moment{Seconds: days * daySeconds}
	if !ok || r.left == "" {
		return got, ok
	}
	if !r.takes("T") && !r.takes("t") && r.skip(" ") == 0 {
		return Moment{}, false
	}
	seconds, ok := r.clock()
	if !ok {
		return Moment{}, false
	}
	got.Seconds += int64(seconds)
	got.HasTime = true
	r.skip(" ")
	if r.left == "" {
		return got, true
	}
	zone, ok := r.zone()
	got.Seconds -= int64(zone)
	got.HasZone = true
	return got, ok
}
