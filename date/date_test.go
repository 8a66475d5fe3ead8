package date_test

import (
	"fmt"
	"math"
	"math/rand"
	"regexp"
	"strconv"
	"strings"
	"testing"
	"time"

	"cringle/api"
	"cringle/date"
)

const (
	first = -719162 // 0001-01-01
	last  = 2932896 // 9999-12-31
)

// pick are texts of pieces taken by chance, but always the same ones.
func pick(count, size int, pieces ...string) []string {
	chance := rand.New(rand.NewSource(6))
	all := make([]string, count)
	for i := range all {
		for range chance.Intn(size + 1) {
			all[i] += pieces[chance.Intn(len(pieces))]
		}
	}
	return all
}

// bent are texts of one shape, with a byte taken out, put in, turned or doubled.
func bent(s string) []string {
	const signs = "0123456789:-+.TtZz AaPpMm \t\x00\xff"
	var all []string
	for i := range len(s) + 1 {
		for _, sign := range []byte(signs) {
			all = append(all, s[:i]+string([]byte{sign})+s[i:])
			if i < len(s) {
				all = append(all, s[:i]+string([]byte{sign})+s[i+1:])
			}
		}
		if i < len(s) {
			all = append(all, s[:i]+s[i+1:], s[:i+1]+s[i:], s[:i], s[i:])
		}
	}
	return all
}

// months are how many days the months of a year have, as one learns it.
func months(leap bool) []int {
	february := 28
	if leap {
		february = 29
	}
	return []int{31, february, 31, 30, 31, 30, 31, 31, 30, 31, 30, 31}
}

// P6.1
func TestIsLeap(t *testing.T) {
	for year, want := range map[int]bool{
		1970: false, 1972: true, 2000: true, 2020: true, 2021: false, 2100: false, 1900: false, 1600: true, 4: true, 1: false,
		9999: false, 9996: true, 10000: true, 0: true, -4: true, -1: false, -100: false, -400: true, -2020: true, -2021: false,
		math.MaxInt64: false, math.MinInt64: true, math.MinInt64 + 1: false,
	} {
		if got := date.IsLeap(year); got != want {
			t.Errorf("IsLeap(%d): %v", year, got)
		}
	}
	for year := -12000; year <= 12000; year++ {
		want := time.Date(year, 12, 31, 0, 0, 0, 0, time.UTC).YearDay() == 366
		if got := date.IsLeap(year); got != want {
			t.Fatalf("IsLeap(%d): %v", year, got)
		}
	}
}

// P6.1
func TestDays(t *testing.T) {
	for _, c := range []struct {
		year, month, day int
		want             int64
	}{
		{1970, 1, 1, 0},
		{1970, 1, 2, 1},
		{1969, 12, 31, -1},
		{1970, 2, 1, 31},
		{1972, 2, 29, 789},
		{1972, 3, 1, 790},
		{2000, 2, 29, 11016},
		{2000, 3, 1, 11017},
		{2020, 2, 29, 18321},
		{2026, 11, 17, 20774},
		{1, 1, 1, first},
		{9999, 12, 31, last},
	} {
		if got, why := date.Days(c.year, c.month, c.day); got != c.want || why != api.OK {
			t.Errorf("Days(%d, %d, %d): %d, %d", c.year, c.month, c.day, got, why)
		}
	}
}

// P6.1
func TestDaysRefuses(t *testing.T) {
	edges := []int{math.MinInt64, math.MinInt64 + 1, math.MinInt32, -1, 0, math.MaxInt32, math.MaxInt64 - 1, math.MaxInt64}
	all := [][3]int{
		{0, 1, 1}, {0, 12, 31}, {10000, 1, 1}, {-1, 1, 1},
		{2020, 0, 1}, {2020, 13, 1}, {2020, -1, 1}, {2020, 14, 1}, {2019, 12, 32},
		{2020, 1, 0}, {2020, 1, 32}, {2020, 2, 30}, {2021, 2, 29}, {1900, 2, 29}, {2000, 2, 30}, {2020, 4, 31}, {2020, 4, -1},
	}
	for _, edge := range edges {
		all = append(all, [3]int{edge, 1, 1}, [3]int{2020, edge, 1}, [3]int{2020, 1, edge}, [3]int{edge, edge, edge})
	}
	for _, c := range all {
		if got, why := date.Days(c[0], c[1], c[2]); got != 0 || why != api.ErrForm {
			t.Errorf("Days(%d): %d, %d", c, got, why)
		}
	}
	for year := 1; year <= 9999; year++ {
		for i, days := range months(date.IsLeap(year)) {
			for _, day := range []int{0, days + 1} {
				if got, why := date.Days(year, i+1, day); got != 0 || why != api.ErrForm {
					t.Fatalf("Days(%d, %d, %d): %d, %d", year, i+1, day, got, why)
				}
			}
		}
	}
}

// P6.1
func TestCivilRefuses(t *testing.T) {
	for _, days := range []int64{first - 1, last + 1, first - 366, last + 366, math.MinInt64, math.MinInt64 + 1, math.MaxInt64, math.MinInt32, math.MaxInt32} {
		if year, month, day, why := date.Civil(days); year != 0 || month != 0 || day != 0 || why != api.ErrForm {
			t.Errorf("Civil(%d): %d, %d, %d, %d", days, year, month, day, why)
		}
	}
}

// P6.1, P6.4
func TestEveryDay(t *testing.T) {
	number := int64(first)
	for year := 1; year <= 9999; year++ {
		for i, days := range months(date.IsLeap(year)) {
			for day := 1; day <= days; day++ {
				if got, why := date.Days(year, i+1, day); got != number || why != api.OK {
					t.Fatalf("Days(%d, %d, %d): %d, %d, not %d", year, i+1, day, got, why, number)
				}
				if y, m, d, why := date.Civil(number); y != year || m != i+1 || d != day || why != api.OK {
					t.Fatalf("Civil(%d): %d, %d, %d, %d, not %d, %d, %d", number, y, m, d, why, year, i+1, day)
				}
				number++
			}
		}
	}
	if number != last+1 {
		t.Errorf("the last day is %d", number-1)
	}
}

// P6.4
func TestEveryDaysText(t *testing.T) {
	for number := int64(first); number <= last; number += 37 {
		at := time.Unix(number*86400, 0).UTC()
		for _, layout := range []string{"2006-01-02", "2006-002"} {
			if got, why := date.Day(at.Format(layout)); got != number || why != api.OK {
				t.Fatalf("Day(%q): %d, %d, not %d", at.Format(layout), got, why, number)
			}
		}
	}
}

var dayForm = regexp.MustCompile(`^([0-9]{4})-(?:([0-9]{2})-([0-9]{2})|([0-9]{3}))$`)

// dayOf is the definition of a day's text.
func dayOf(s string) (int64, bool) {
	parts := dayForm.FindStringSubmatch(s)
	if parts == nil || parts[1] == "0000" {
		return 0, false
	}
	year, _ := strconv.Atoi(parts[1])
	month, _ := strconv.Atoi(parts[2])
	day, _ := strconv.Atoi(parts[3] + parts[4])
	if parts[4] != "" {
		month = 1
	}
	at := time.Date(year, time.Month(month), day, 0, 0, 0, 0, time.UTC)
	if parts[4] != "" && (at.Year() != year || day == 0) || parts[4] == "" && at.Format("2006-01-02") != s {
		return 0, false
	}
	return at.Unix() / 86400, true
}

var (
	timeForm   = regexp.MustCompile(`^([01][0-9]|2[0-3]):([0-5][0-9])(?::([0-5][0-9]|60)(?:\.[0-9]+)?)?$`)
	spokenForm = regexp.MustCompile(`^(0?[1-9]|1[0-2])(?::([0-5][0-9])(?::([0-5][0-9]))?)?(?:([aApP])[mM]|([aApP])\.[mM]\.)$`)
	zoneForm   = regexp.MustCompile(`^([+-])(0[0-9]|1[0-4])(?::?([0-5][0-9]))?$`)
)

// seconds are those of a time's texts.
func seconds(hour, minute, second string) int {
	h, _ := strconv.Atoi(hour)
	m, _ := strconv.Atoi(minute)
	s, _ := strconv.Atoi(second)
	return h*3600 + m*60 + min(s, 59)
}

// timeOf is the definition of a time's text.
func timeOf(s string) (int, bool) {
	parts := timeForm.FindStringSubmatch(s)
	if parts == nil {
		return 0, false
	}
	return seconds(parts[1], parts[2], parts[3]), true
}

// clockOf is the definition of what Clock reads.
func clockOf(s string) (int, bool) {
	if time, ok := timeOf(s); ok {
		return time, true
	}
	parts := spokenForm.FindStringSubmatch(s)
	if parts == nil {
		return 0, false
	}
	time := seconds(parts[1], parts[2], parts[3])
	if time >= 12*3600 {
		time -= 12 * 3600
	}
	if strings.ToLower(parts[4]+parts[5]) == "p" {
		time += 12 * 3600
	}
	return time, true
}

// zoneOf is the definition of a zone's text.
func zoneOf(s string) (int, bool) {
	if s == "Z" || s == "z" {
		return 0, true
	}
	parts := zoneForm.FindStringSubmatch(s)
	if parts == nil {
		return 0, false
	}
	ahead := seconds(parts[2], parts[3], "")
	if parts[1] == "-" {
		ahead = -ahead
	}
	return ahead, true
}

var (
	splitForm = regexp.MustCompile(`^(.{8}|.{10})(?:[Tt]| +)([0-9:.]+)(?: *([Zz+-].*))?$`)
)

// parsed is the definition of a moment's text.
func parsed(s string) (date.Moment, bool) {
	s = strings.Trim(s, "\t\n\f\r ")
	if days, ok := dayOf(s); ok {
		return date.Moment{Seconds: days * 86400}, true
	}
	parts := splitForm.FindStringSubmatch(s)
	if parts == nil {
		return date.Moment{}, false
	}
	days, isDay := dayOf(parts[1])
	time, isTime := timeOf(parts[2])
	if !isDay || !isTime {
		return date.Moment{}, false
	}
	if parts[3] == "" {
		return date.Moment{Seconds: days*86400 + int64(time), HasTime: true}, true
	}
	zone, isZone := zoneOf(parts[3])
	if !isZone {
		return date.Moment{}, false
	}
	return date.Moment{Seconds: days*86400 + int64(time) - int64(zone), HasTime: true, HasZone: true}, true
}

// hold holds a call against its definition.
func hold[T comparable](t *testing.T, name string, call func(string) (T, api.Errno), want func(string) (T, bool), all []string) {
	t.Helper()
	good := 0
	for _, s := range all {
		value, ok := want(s)
		why := api.ErrForm
		if ok {
			why = api.OK
			good++
		}
		if got, e := call(s); got != value || e != why {
			t.Fatalf("%s(%q): %v, %d, not %v, %d", name, s, got, e, value, why)
		}
	}
	if good == 0 || good == len(all) {
		t.Errorf("%s: %d of %d texts are good", name, good, len(all))
	}
}

// P6.2
func TestDay(t *testing.T) {
	for s, want := range map[string]int64{
		"1970-01-01": 0, "1970-001": 0, "1969-12-31": -1, "1969-365": -1, "2020-02-29": 18321, "2020-060": 18321, "2020-366": 18627,
		"2021-365": 18992, "0001-01-01": first, "0001-001": first, "9999-12-31": last, "9999-365": last, "2020-12-31": 18627, "2000-100": 10957 + 99,
	} {
		if got, why := date.Day(s); got != want || why != api.OK {
			t.Errorf("Day(%q): %d, %d", s, got, why)
		}
	}
	for _, s := range []string{
		"", "2020", "2020-", "2020-01", "2020-01-", "2020-01-1", "2020-1-01", "2020-1-1", "2020-01-011", "2020-0101", "20200101", "020-01-01",
		"12020-01-01", "0000-01-01", "0000-001", "2020-00-01", "2020-13-01", "2020-01-00", "2020-01-32", "2021-02-29", "2020-02-30", "1900-02-29",
		"2020-000", "2020-367", "2021-366", "2020-999", "2020-1", "2020-12", "2020-1234", "2020-100-01", "2020-012-03", "-020-01-01", "+020-01-01",
		" 2020-01-01", "2020-01-01 ", "2020-01-01T", "2020-01-01Z", "2020/01/01", "2020-01_01", "2020-01-+1", "2020--1-01", "2020- 1-01", "2020-01-01\x00",
		"２０２０-01-01", "2020-0１-1", "2020−01−01",
	} {
		if got, why := date.Day(s); got != 0 || why != api.ErrForm {
			t.Errorf("Day(%q): %d, %d", s, got, why)
		}
	}
	var all []string
	for _, year := range []string{"0000", "0001", "0004", "1600", "1900", "1970", "2000", "2020", "2021", "9999"} {
		for n := range 1000 {
			all = append(all, fmt.Sprintf("%s-%03d", year, n))
		}
		for n := range 10000 {
			all = append(all, fmt.Sprintf("%s-%02d-%02d", year, n/100, n%100))
		}
	}
	all = append(all, bent("2020-02-29")...)
	all = append(all, bent("2020-366")...)
	hold(t, "Day", date.Day, dayOf, append(all, pick(100000, 10, "2020", "-", "0", "1", "2", "9", "02", "001", " ")...))
}

// P6.2
func TestClock(t *testing.T) {
	for s, want := range map[string]int{
		"00:00": 0, "00:00:00": 0, "00:01": 60, "01:00": 3600, "00:00:01": 1, "12:34:56": 45296, "23:59": 86340, "23:59:59": 86399, "23:59:60": 86399,
		"12:00:60": 43259, "12:34:56.7": 45296, "23:59:59.999999999999999999999999999999": 86399, "00:00:60.5": 59, "00:00:00.0": 0,
		"1am": 3600, "1AM": 3600, "1Am": 3600, "1aM": 3600, "1a.m.": 3600, "1A.M.": 3600, "01am": 3600, "12am": 0, "12pm": 43200, "1pm": 46800, "11pm": 82800,
		"11:59:59pm": 86399, "12:59:59am": 3599, "12:30am": 1800, "12:30pm": 45000, "7:05p.m.": 68700, "07:05P.m.": 68700, "10:00:01pM": 79201,
		"00:00:00.": -1, "12:30.5": -1, "24:00": -1, "23:60": -1, "23:59:61": -1, "1:30": -1, "12": -1, "1230": -1, "12:3": -1, "12:30:": -1, "12:30:1": -1,
		"12:30:10.x": -1, "12:30:10.1x": -1, "12:30:10,5": -1, "12:30:10:10": -1, "012:30": -1, "-1:30": -1, "+1:30": -1, " 12:30": -1, "12:30 ": -1, "": -1,
		"12:30Z": -1, "12:30+01:00": -1, "T12:30": -1, "am": -1, "pm": -1, "0am": -1, "00am": -1, "0:30am": -1, "13pm": -1, "13:00pm": -1, "001am": -1, "20pm": -1,
		"1 am": -1, "1am ": -1, "1a.m": -1, "1am.": -1, "1.a.m.": -1, "1a..m.": -1, "1a": -1, "1p": -1, "1m": -1, "1xm": -1, "1:am": -1, "1:3am": -1, "1:60am": -1,
		"1:30:am": -1, "1:30:6am": -1, "1:30:60am": -1, "1:30:30.5am": -1, "1:30:30:30am": -1, "1ampm": -1, "1amam": -1, "1:300am": -1, "1\u212am": -1,
	} {
		why := api.OK
		if want < 0 {
			want, why = 0, api.ErrForm
		}
		if got, e := date.Clock(s); got != want || e != why {
			t.Errorf("Clock(%q): %d, %d", s, got, e)
		}
	}
	var all []string
	for n := range 10000 {
		time := fmt.Sprintf("%02d:%02d", n/100, n%100)
		all = append(all, time, time+"am", time+"p.m.", time+":00", "12:"+time, "3:"+time+"pm", fmt.Sprintf("%d:%02dPM", n/100, n%100))
	}
	for n := range 1000 {
		all = append(all, fmt.Sprintf("%dam", n), fmt.Sprintf("%02dP.M.", n))
	}
	for _, s := range []string{"12:34", "23:59:60", "01:02:03.45", "1am", "12pm", "7:05A.M.", "11:59:59p.m."} {
		all = append(all, bent(s)...)
	}
	hold(t, "Clock", date.Clock, clockOf, append(all, pick(300000, 8, "0", "1", "2", "12", "59", "60", ":", ".", "am", "PM", "a.m.", "p", "m", " ")...))
}

// P6.2
func TestZone(t *testing.T) {
	for s, want := range map[string]int{
		"Z": 0, "z": 0, "+00": 0, "-00": 0, "+00:00": 0, "-0000": 0, "+01": 3600, "-01": -3600, "+01:30": 5400, "-01:30": -5400, "+0130": 5400, "-0130": -5400,
		"+14": 50400, "+1400": 50400, "+14:59": 53940, "-14:59": -53940, "-00:01": -60, "+0001": 60,
	} {
		if got, why := date.Zone(s); got != want || why != api.OK {
			t.Errorf("Zone(%q): %d, %d", s, got, why)
		}
	}
	for _, s := range []string{
		"", "ZZ", "Zz", "Z0", "+", "-", "+1", "+1:00", "+01:", "+01:0", "+010", "+01:000", "+01000", "+01::00", "+15", "+15:00", "-1500", "+01:60", "+0160", "01:00", "0100",
		" Z", "Z ", "+ 01", "+01 00", "+-01", "--01", "+01:-1", "\u221201:00", "UTC", "GMT", "+01:00:00", "+99",
	} {
		if got, why := date.Zone(s); got != 0 || why != api.ErrForm {
			t.Errorf("Zone(%q): %d, %d", s, got, why)
		}
	}
	var all []string
	for n := range 10000 {
		all = append(all, fmt.Sprintf("+%04d", n), fmt.Sprintf("-%02d:%02d", n/100, n%100), fmt.Sprintf("%05d", n))
	}
	for n := range 1000 {
		all = append(all, fmt.Sprintf("+%d", n), fmt.Sprintf("-%02d", n))
	}
	for _, s := range []string{"Z", "+01", "-01:30", "+1459"} {
		all = append(all, bent(s)...)
	}
	hold(t, "Zone", date.Zone, zoneOf, append(all, pick(100000, 6, "0", "1", "4", "14", "59", ":", "+", "-", "Z", "z", " ")...))
}

// P6.3
func TestParse(t *testing.T) {
	day, clock, zone := date.Moment{}, date.Moment{HasTime: true}, date.Moment{HasTime: true, HasZone: true}
	at := func(m date.Moment, text string) date.Moment {
		got, err := time.Parse("2006-01-02 15:04:05", text)
		if err != nil {
			t.Fatal(err)
		}
		m.Seconds = got.Unix()
		return m
	}
	for s, want := range map[string]date.Moment{
		"1970-01-01":                          day,
		"1970-01-01T00:00":                    clock,
		"1970-01-01T00:00Z":                   zone,
		"2020-02-29 23:30 -0130":              at(zone, "2020-03-01 01:00:00"),
		"2020-02-29":                          at(day, "2020-02-29 00:00:00"),
		"2020-060":                            at(day, "2020-02-29 00:00:00"),
		" \t\r\n\f2020-060\f\n\r\t ":          at(day, "2020-02-29 00:00:00"),
		"2020-02-29T23:30":                    at(clock, "2020-02-29 23:30:00"),
		"2020-02-29t23:30:01":                 at(clock, "2020-02-29 23:30:01"),
		"2020-02-29     23:30:01.25":          at(clock, "2020-02-29 23:30:01"),
		"2020-060T23:30:60Z":                  at(zone, "2020-02-29 23:30:59"),
		"2020-060 23:30z":                     at(zone, "2020-02-29 23:30:00"),
		"2020-02-29T23:30+01":                 at(zone, "2020-02-29 22:30:00"),
		"2020-02-29T23:30-01":                 at(zone, "2020-03-01 00:30:00"),
		"2020-02-29T23:30+01:30":              at(zone, "2020-02-29 22:00:00"),
		"2020-02-29T23:30:01.5+0130":          at(zone, "2020-02-29 22:00:01"),
		"2020-02-29  23:30:01.5    Z":         at(zone, "2020-02-29 23:30:01"),
		"\t2020-12-31T23:30:01-14:59\n":       at(zone, "2021-01-01 14:29:01"),
		"0001-01-01":                          {Seconds: first * 86400},
		"0001-01-01T00:00+14:59":              {Seconds: first*86400 - 53940, HasTime: true, HasZone: true},
		"9999-12-31T23:59:60-14:59":           {Seconds: last*86400 + 86399 + 53940, HasTime: true, HasZone: true},
		"1969-12-31T23:59:59.000000000000001": {Seconds: -1, HasTime: true},
	} {
		if got, why := date.Parse(s); got != want || why != api.OK {
			t.Errorf("Parse(%q): %v, %d, not %v", s, got, why, want)
		}
	}
}

// P6.3
func TestParseRefuses(t *testing.T) {
	for _, s := range []string{
		"", " ", "T", "2020", "2020-02", "2020-02-30", "2021-02-29", "0000-01-01", "20200229", "2020-02-29T", "2020-02-29 T", "2020-02-29Z", "2020-02-29 Z", "2020-02-29+01:00",
		"2020-02-2923:30", "2020-06023:30", "2020-02-29TT23:30", "2020-02-29T 23:30", "2020-02-29 T23:30", "2020-02-29T T23:30", "2020-02-29\t23:30", "2020-02-29\n23:30", "2020-02-29 \t23:30",
		"2020-02-29T24:00", "2020-02-29T23:60", "2020-02-29T23:30:61", "2020-02-29T23", "2020-02-29T2330", "2020-02-29T3:30", "2020-02-29T23:30.5", "2020-02-29T23:30:01.",
		"2020-02-29T23:30:01. Z", "2020-02-29T23:30:01.Z", "2020-02-29T11:30pm", "2020-02-29 11:30 pm", "2020-02-29 11pm", "2020-02-29T11:30pmZ",
		"2020-02-29T23:30\tZ", "2020-02-29T23:30 \tZ", "2020-02-29T23:30ZZ", "2020-02-29T23:30 Z Z", "2020-02-29T23:30+15", "2020-02-29T23:30+01:60", "2020-02-29T23:30+1", "2020-02-29T23:30 + 01",
		"2020-02-29T23:30+01: 30", "2020-02-29T23:30+01 30", "2020-02-29T23:30+", "2020-02-29T23:30 -", "2020-02-29T23:30x", "2020-02-29T23:30 GMT", "23:30", "T23:30", "Z",
		"2020-100-01", "2020-02-29 2020-02-29", "\v2020-02-29", "2020-02-29\v", "\u00a02020-02-29", "2020-02-29T23:30\u00a0Z", "2020-02-29\x00", "2020-02-29T23:30Z\x00",
	} {
		if got, why := date.Parse(s); got != (date.Moment{}) || why != api.ErrForm {
			t.Errorf("Parse(%q): %v, %d", s, got, why)
		}
	}
}

// P6.3
func TestParseIsItsDefinition(t *testing.T) {
	var all []string
	for _, day := range []string{"2020-02-29", "2021-02-29", "2020-366", "2021-366", "0001-001", ""} {
		for _, gap := range []string{"T", "t", " ", "   ", "", "\t", " T"} {
			for _, clock := range []string{"23:30", "00:00:60", "01:02:03.4", "1:30pm", "24:00", "01:02:03.", ""} {
				for _, space := range []string{"", " ", "  ", "\t"} {
					for _, zone := range []string{"", "Z", "z", "+01", "-0130", "+14:59", "+15", "+1", "-01:", "x"} {
						s := day + gap + clock + space + zone
						all = append(all, s, " \n"+s+"\f\r\t ")
					}
				}
			}
		}
	}
	for _, s := range []string{"2020-02-29 23:30 -0130", "2020-02-29T23:30:59.1Z", "2020-366t01:02:03+01:00", "2020-060"} {
		all = append(all, bent(s)...)
	}
	all = append(all, pick(300000, 8, "2020-02-29", "2020-060", "T", " ", "23:30", ":59", ".5", "Z", "+01", ":30", "-", "1", "\t")...)
	hold(t, "Parse", date.Parse, parsed, all)
}

// P6.3
func TestFormat(t *testing.T) {
	for seconds, want := range map[int64]string{
		0: "1970-01-01T00:00:00Z", -1: "1969-12-31T23:59:59Z", 1: "1970-01-01T00:00:01Z", 59: "1970-01-01T00:00:59Z", 60: "1970-01-01T00:01:00Z", 3599: "1970-01-01T00:59:59Z",
		3600: "1970-01-01T01:00:00Z", 86399: "1970-01-01T23:59:59Z", 86400: "1970-01-02T00:00:00Z", -86400: "1969-12-31T00:00:00Z", -86401: "1969-12-30T23:59:59Z",
		1582934400: "2020-02-29T00:00:00Z", first * 86400: "0001-01-01T00:00:00Z", last*86400 + 86399: "9999-12-31T23:59:59Z",
	} {
		if got, why := date.Format(seconds); got != want || why != api.OK {
			t.Errorf("Format(%d): %q, %d", seconds, got, why)
		}
	}
	for _, seconds := range []int64{first*86400 - 1, (last + 1) * 86400, math.MinInt64, math.MinInt64 + 1, math.MaxInt64, math.MaxInt64 - 1, -1 << 40, 1 << 40} {
		if got, why := date.Format(seconds); got != "" || why != api.ErrForm {
			t.Errorf("Format(%d): %q, %d", seconds, got, why)
		}
	}
}

// P6.3, P6.5
func TestFormatAndBack(t *testing.T) {
	for seconds := int64(first * 86400); seconds < (last+1)*86400; seconds += 1000003 {
		s, why := date.Format(seconds)
		if want := time.Unix(seconds, 0).UTC().Format("2006-01-02T15:04:05Z"); s != want || why != api.OK {
			t.Fatalf("Format(%d): %q, %d, not %q", seconds, s, why, want)
		}
		want := date.Moment{Seconds: seconds, HasTime: true, HasZone: true}
		if got, why := date.Parse(s); got != want || why != api.OK {
			t.Fatalf("Parse(%q): %v, %d, not %v", s, got, why, want)
		}
	}
	for _, seconds := range []int64{first * 86400, last*86400 + 86399, -1, 0, 86399, -86400, -86401} {
		s, _ := date.Format(seconds)
		if got, why := date.Parse(s); got.Seconds != seconds || why != api.OK {
			t.Errorf("Parse(%q): %v, %d, not %d", s, got, why, seconds)
		}
	}
}

// P6.6
func TestZonesTurnMoments(t *testing.T) {
	for _, s := range []string{"2020-02-29T23:30", "0001-01-01 00:00", "9999-12-31T23:59:59", "1970-001t00:00:00.5"} {
		plain, why := date.Parse(s)
		if why != api.OK || !plain.HasTime || plain.HasZone {
			t.Fatalf("Parse(%q): %v, %d", s, plain, why)
		}
		for minutes := range 15 * 60 {
			zone := fmt.Sprintf("%02d:%02d", minutes/60, minutes%60)
			less := plain.Seconds - int64(minutes)*60
			more := plain.Seconds + int64(minutes)*60
			for sign, want := range map[string]int64{"+": less, "-": more} {
				for _, text := range []string{s + sign + zone, s + " " + sign + strings.Replace(zone, ":", "", 1)} {
					if got, why := date.Parse(text); got != (date.Moment{Seconds: want, HasTime: true, HasZone: true}) || why != api.OK {
						t.Fatalf("Parse(%q): %v, %d, not %d", text, got, why, want)
					}
				}
			}
		}
	}
}
