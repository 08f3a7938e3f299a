package clock

import (
	"fmt"
	"math"
	"strings"
	"testing"
	"time"

	"larum/api"
)

const (
	allDays  = 2932897                // of the years 1970 to 9999
	lastTime = "6325-04-08T15:04:32Z" // the text of MaxTime
)

// lengths are the days of a year's months, as the chapter lists them.
var lengths = [12]int{31, 28, 31, 30, 31, 30, 31, 31, 30, 31, 30, 31}

func expectDays(t *testing.T, y, m, d int, days int64, ok bool) {
	t.Helper()
	if gd, gok := Days(y, m, d); gd != days || gok != ok {
		t.Errorf("Days(%d, %d, %d) is %d, %v, not %d, %v", y, m, d, gd, gok, days, ok)
	}
}

func expectDate(t *testing.T, days int64, y, m, d int, ok bool) {
	t.Helper()
	if gy, gm, gd, gok := Date(days); gy != y || gm != m || gd != d || gok != ok {
		t.Errorf("Date(%d) is %d, %d, %d, %v, not %d, %d, %d, %v", days, gy, gm, gd, gok, y, m, d, ok)
	}
}

func expectPrint(t *testing.T, sec int64, s string, e api.Errno) {
	t.Helper()
	if gs, ge := Print(sec); gs != s || ge != e {
		t.Errorf("Print(%d) is %q, %d, not %q, %d", sec, gs, ge, s, e)
	}
}

func expectParse(t *testing.T, s string, sec int64, e api.Errno) {
	t.Helper()
	if gs, ge := Parse(s); gs != sec || ge != e {
		t.Errorf("Parse(%.60q) is %d, %d, not %d, %d", s, gs, ge, sec, e)
	}
}

// expectTime: sec is the time whose text is s.
func expectTime(t *testing.T, sec int64, s string) {
	t.Helper()
	expectPrint(t, sec, s, api.OK)
	expectParse(t, s, sec, api.OK)
}

// expectDay: the date is one, and so many days are ahead of it.
func expectDay(t *testing.T, y, m, d int, days int64) {
	t.Helper()
	expectDays(t, y, m, d, days, true)
	expectDate(t, days, y, m, d, true)
}

// P4.1: every date, one behind the other, and the day behind each month.
func TestEveryDate(t *testing.T) {
	days := int64(0)
	for y := 1970; y <= 9999; y++ {
		for i, n := range lengths {
			if i == 1 && y%4 == 0 && (y%100 != 0 || y%400 == 0) {
				n++
			}
			expectDays(t, y, i+1, 0, 0, false)
			for d := range n {
				expectDay(t, y, i+1, d+1, days)
				days++
			}
			expectDays(t, y, i+1, n+1, 0, false)
		}
	}
	if days != allDays {
		t.Errorf("there are %d days", days)
	}
	expectDate(t, days, 0, 0, 0, false)
}

// P4.1: the first and the last day of each month.
func TestEndsOfMonths(t *testing.T) {
	for _, k := range []struct {
		year  int
		start int64 // days ahead of the year
		leap  bool
	}{
		{1970, 0, false},
		{1972, 730, true},
		{1999, 10592, false},
		{2000, 10957, true},
		{2100, 47482, false},
		{2400, 157054, true},
		{9999, 2932532, false},
	} {
		days := k.start
		for i, n := range lengths {
			if k.leap && i == 1 {
				n++
			}
			expectDay(t, k.year, i+1, 1, days)
			expectDay(t, k.year, i+1, n, days+int64(n)-1)
			expectDays(t, k.year, i+1, 0, 0, false)
			expectDays(t, k.year, i+1, n+1, 0, false)
			days += int64(n)
		}
	}
}

// P4.1: the 29th of the second month, where there is one and where not.
func TestLeapDays(t *testing.T) {
	expectDay(t, 1972, 2, 29, 789)
	expectDay(t, 2000, 2, 29, 11016)
	expectDay(t, 2024, 2, 29, 19782)
	expectDay(t, 2400, 2, 29, 157113)
	for _, y := range []int{1970, 1971, 1973, 1974, 2001, 2023, 2100, 2200, 2300, 2500, 9900, 9999} {
		start, _ := Days(y, 1, 1)
		expectDay(t, y, 2, 28, start+58)
		expectDays(t, y, 2, 29, 0, false)
		expectDay(t, y, 3, 1, start+59)
	}
	for _, y := range []int{1972, 2000, 2100, 2400} {
		expectDays(t, y, 2, 30, 0, false)
	}
}

// P4.1: Days of what is no date.
func TestDaysRefuses(t *testing.T) {
	least, most := math.MinInt, math.MaxInt
	for _, y := range []int{least, least + 1, math.MinInt32, -1970, -1, 0, 1, 70, 1968, 1969, 10000, 10004, 12000, math.MaxInt32, most - 1, most} {
		expectDays(t, y, 1, 1, 0, false)
		expectDays(t, y, 12, 31, 0, false)
		expectDays(t, y, y, y, 0, false)
	}
	for _, m := range []int{least, least + 1, -12, -1, 0, 13, 14, 24, most - 1, most} {
		expectDays(t, 2000, m, 1, 0, false)
		expectDays(t, 1970, m, 31, 0, false)
		expectDays(t, 9999, m, 0, 0, false)
	}
	for _, d := range []int{least, least + 1, -31, -1, 0, 32, 33, 100, most - 1, most} {
		for m := range 12 {
			expectDays(t, 2000, m+1, d, 0, false)
		}
	}
	expectDay(t, 1970, 1, 1, 0)
	expectDay(t, 9999, 12, 31, allDays-1)
}

// P4.1: Date of numbers that no date has.
func TestDateRefuses(t *testing.T) {
	for _, days := range []int64{math.MinInt64, math.MinInt64 + 1, -allDays, -719162, -366, -2, -1, allDays, allDays + 1, 1 << 31, 1 << 32, 1 << 62, math.MaxInt64 - 1, math.MaxInt64} {
		expectDate(t, days, 0, 0, 0, false)
	}
}

// P4.2: texts of times, both ways.
func TestTimes(t *testing.T) {
	expectTime(t, 0, "1970-01-01T00:00:00Z")
	expectTime(t, 1, "1970-01-01T00:00:01Z")
	expectTime(t, 59, "1970-01-01T00:00:59Z")
	expectTime(t, 60, "1970-01-01T00:01:00Z")
	expectTime(t, 3599, "1970-01-01T00:59:59Z")
	expectTime(t, 3600, "1970-01-01T01:00:00Z")
	expectTime(t, 86399, "1970-01-01T23:59:59Z")
	expectTime(t, 86400, "1970-01-02T00:00:00Z")
	expectTime(t, 31535999, "1970-12-31T23:59:59Z")
	expectTime(t, 31536000, "1971-01-01T00:00:00Z")
	expectTime(t, 951782401, "2000-02-29T00:00:01Z")
	expectTime(t, 1234567890, "2009-02-13T23:31:30Z")
	expectTime(t, math.MaxInt32, "2038-01-19T03:14:07Z")
	expectTime(t, math.MaxInt32+1, "2038-01-19T03:14:08Z")
	expectTime(t, 4107542399, "2100-02-28T23:59:59Z")
	expectTime(t, 4107542400, "2100-03-01T00:00:00Z")
	expectTime(t, 1<<32, "2106-02-07T06:28:16Z")
	expectTime(t, api.MaxTime-1, "6325-04-08T15:04:31Z")
	expectTime(t, api.MaxTime, lastTime)
}

// P4.2: Print of numbers that are no times.
func TestPrintRefuses(t *testing.T) {
	for _, sec := range []int64{math.MinInt64, math.MinInt64 + 1, -api.MaxTime, -86400, -2, -1, api.MaxTime + 1, api.MaxTime + 2, 1 << 38, 1 << 62, math.MaxInt64 - 1, math.MaxInt64} {
		expectPrint(t, sec, "", api.ErrArg)
	}
}

// P4.2: Parse of texts of times that are above MaxTime.
func TestParseAboveMaxTime(t *testing.T) {
	for _, s := range []string{
		"6325-04-08T15:04:33Z", "6325-04-08T15:05:00Z", "6325-04-08T16:00:00Z", "6325-04-09T00:00:00Z",
		"6325-05-01T00:00:00Z", "6326-01-01T00:00:00Z", "8000-02-29T12:00:00Z", "9999-12-31T23:59:59Z",
	} {
		expectParse(t, s, 0, api.ErrLong)
	}
}

// P1 and P4.2: what is no text of a time is told ahead of what is too late.
func TestFormIsToldAheadOfLength(t *testing.T) {
	for _, s := range []string{
		"9999-12-31T24:00:00Z", "9999-12-31T23:60:00Z", "9999-12-31T23:59:60Z", "9999-12-32T00:00:00Z",
		"9999-13-01T00:00:00Z", "9999-02-29T00:00:00Z", "9999-12-31T23:59:59z", "6325-04-08T15:04:60Z",
	} {
		expectParse(t, s, 0, api.ErrForm)
	}
}

// P4.2: Parse of dates and hours that there are not.
func TestParseRefuses(t *testing.T) {
	for _, s := range []string{
		"0000-01-01T00:00:00Z", "0001-01-01T00:00:00Z", "1969-12-31T23:59:59Z", "1969-01-01T00:00:00Z",
		"2000-00-01T00:00:00Z", "2000-13-01T00:00:00Z", "2000-99-01T00:00:00Z",
		"2000-01-00T00:00:00Z", "2000-01-32T00:00:00Z", "2000-04-31T00:00:00Z", "2000-01-99T00:00:00Z",
		"2000-02-30T00:00:00Z", "2001-02-29T00:00:00Z", "2100-02-29T00:00:00Z", "2000-00-00T00:00:00Z",
		"2000-01-01T24:00:00Z", "2000-01-01T25:00:00Z", "2000-01-01T99:00:00Z",
		"2000-01-01T00:60:00Z", "2000-01-01T00:99:00Z",
		"2000-01-01T00:00:60Z", "2000-01-01T00:00:61Z", "2000-01-01T00:00:99Z", "2016-12-31T23:59:60Z",
		"2000-01-01t00:00:00Z", "2000-01-01T00:00:00z", "2000-01-01 00:00:00Z", "2000/01/01T00:00:00Z", "2000-01-01T00.00.00Z",
		"2000-01-01T00:00:00+", "+200-01-01T00:00:00Z", "-200-01-01T00:00:00Z", "2000-+1-01T00:00:00Z", "2000-01--1T00:00:00Z",
		"2000- 1-01T00:00:00Z", "2000-01-01T 0:00:00Z", "2000-0x-01T00:00:00Z", "2000-01-01T00:00:0aZ",
		"２-01-01T00:00:000Z", "2000-01-01T00:00:\x80\x80Z",
	} {
		expectParse(t, s, 0, api.ErrForm)
	}
}

// P4.2: Parse of texts that are too short or too long.
func TestParseOfWrongLengths(t *testing.T) {
	const s = "2000-02-29T12:34:56Z"
	for n := range len(s) {
		expectParse(t, s[:n], 0, api.ErrForm)
		expectParse(t, s[n+1:], 0, api.ErrForm)
		expectParse(t, s[:n]+s[n+1:], 0, api.ErrForm)
		expectParse(t, s[:n]+"0"+s[n:], 0, api.ErrForm)
	}
	for _, s := range []string{
		s + " ", " " + s, s + "Z", s + "\n", s + "\x00", s + s, "10000-01-01T00:00:00Z", "12000-01-01T00:00:00Z", "+2000-01-01T00:00:00Z",
		"2000-01-01T00:00:00", "2000-01-01T00:00:00.0Z", "2000-01-01T00:00:00+00:00", "2000-01-01T00:00Z", "2000-01-01", "20000101T000000Z",
		"2000-1-01T00:00:00Z", "946684800", strings.Repeat("0", 1<<20), strings.Repeat(s, 1000),
	} {
		expectParse(t, s, 0, api.ErrForm)
	}
}

// P4.2: each of the 256 bytes, at each place of a text: what is taken is what
// the library prints so.
func TestParseOfEveryByteAtEachPlace(t *testing.T) {
	for _, s := range []string{"1970-01-01T00:00:00Z", "2000-02-29T12:34:56Z", "2011-11-11T11:11:11Z", lastTime} {
		for at := range len(s) {
			for c := range 256 {
				b := []byte(s)
				b[at] = byte(c)
				expectByLibrary(t, string(b))
			}
		}
	}
}

// expectByLibrary holds Parse to the library's reading of texts, which takes
// more: only a text that it prints the same is one here.
func expectByLibrary(t *testing.T, s string) {
	t.Helper()
	at, err := time.Parse(time.RFC3339, s)
	switch {
	case err != nil || at.UTC().Format(time.RFC3339) != s || at.Year() < 1970:
		expectParse(t, s, 0, api.ErrForm)
	case at.Unix() > api.MaxTime:
		expectParse(t, s, 0, api.ErrLong)
	default:
		expectParse(t, s, at.Unix(), api.OK)
	}
}

// P4.2: all numbers from 0 to 99 as months, days, hours, minutes and seconds.
func TestParseOfEveryPart(t *testing.T) {
	for _, form := range []string{"2000-%02d-01T00:00:00Z", "2000-02-%02dT00:00:00Z", "2001-02-%02dT00:00:00Z", "2000-12-%02dT00:00:00Z", "2000-01-01T%02d:00:00Z", "2000-01-01T00:%02d:00Z", "2000-01-01T00:00:%02dZ"} {
		for n := range 100 {
			expectByLibrary(t, fmt.Sprintf(form, n))
		}
	}
	for y := range 10000 {
		expectByLibrary(t, fmt.Sprintf("%04d-01-01T00:00:00Z", y))
		expectByLibrary(t, fmt.Sprintf("%04d-02-29T23:59:59Z", y))
	}
}

// P4.2 and P4.3: times all over, Parse of Print the time, Print of Parse the
// text, and a later time's text the greater one.
func TestThereAndBack(t *testing.T) {
	before := ""
	for sec := int64(0); sec <= api.MaxTime; sec += 604777 {
		s := time.Unix(sec, 0).UTC().Format(time.RFC3339)
		expectTime(t, sec, s)
		if got, _ := Print(sec); got <= before {
			t.Errorf("the text of %d, %q, is not above %q", sec, got, before)
		}
		before = s
	}
}

// P4.3: the text of each of two times that follow one another, at the turns of
// minutes, hours, days, months and years.
func TestOrderAtTurns(t *testing.T) {
	for days := int64(1); days < api.MaxTime/86400; days++ {
		for _, sec := range []int64{days * 86400, days*86400 + 60*59, days*86400 + 3600*10} {
			earlier, _ := Print(sec - 1)
			later, _ := Print(sec)
			if earlier >= later {
				t.Errorf("the text of %d, %q, is not above %q", sec, later, earlier)
			}
		}
	}
	for _, k := range [][2]string{
		{"1970-01-01T00:00:00Z", "1970-01-01T00:00:01Z"},
		{"1999-12-31T23:59:59Z", "2000-01-01T00:00:00Z"},
		{"2000-02-29T23:59:59Z", "2000-03-01T00:00:00Z"},
		{"2000-09-30T23:59:59Z", "2000-10-01T00:00:00Z"},
		{"2000-01-01T09:59:59Z", "2000-01-01T10:00:00Z"},
	} {
		a, _ := Parse(k[0])
		b, _ := Parse(k[1])
		if a+1 != b {
			t.Errorf("between %q and %q are %d seconds", k[0], k[1], b-a)
		}
	}
}
