package stamp

import (
	"math"
	"math/rand/v2"
	"regexp"
	"strconv"
	"strings"
	"testing"
	"time"

	"postrider/api"
)

// letter answers the letter of a place, as the words tell it.
func letter(n int) string {
	if n < 26 {
		return string(rune('A' + n))
	}
	return string(rune('2' + n - 26))
}

// form is a date's form, told as an expression.
var form = regexp.MustCompile(`^(Sun|Mon|Tue|Wed|Thu|Fri|Sat), (\d{2}) (Jan|Feb|Mar|Apr|May|Jun|Jul|Aug|Sep|Oct|Nov|Dec) (\d{4}|[1-9]\d{4,9}) (\d{2}):(\d{2}):(\d{2}) \+0000$`)

// names are the months' names, a blank ahead of each.
const names = " Jan Feb Mar Apr May Jun Jul Aug Sep Oct Nov Dec"

// dateTold is what Date must answer of a tick that is not beyond.
func dateTold(tick int64) string {
	return time.Unix(tick, 0).UTC().Format("Mon, 02 Jan 2006 15:04:05 -0700")
}

// tickTold is what ParseDate must answer.
func tickTold(s string) (int64, api.Errno) {
	parts := form.FindStringSubmatch(s)
	if parts == nil || strings.HasSuffix(s, "\n") {
		return 0, api.ErrForm
	}
	number := func(i int) int {
		n, _ := strconv.Atoi(parts[i])
		return n
	}
	month := time.Month(strings.Index(names, " "+parts[3])/4 + 1)
	year, of, hour, minute, second := number(4), number(2), number(5), number(6), number(7)
	at := time.Date(year, month, of, hour, minute, second, 0, time.UTC)
	there := at.Month() == month && at.Day() == of && hour < 24 && minute < 60 && second < 60
	if !there || at.Weekday().String()[:3] != parts[1] || at.Unix() < 0 || at.Unix() > api.MaxTicks {
		return 0, api.ErrRange
	}
	return at.Unix(), api.OK
}

// holdDate holds that a tick and a text are each other's.
func holdDate(t *testing.T, tick int64, s string) {
	t.Helper()
	if got := Date(tick); got != s {
		t.Errorf("Date(%d): %q, not %q", tick, got, s)
	}
	if got, e := ParseDate(s); got != tick || e != api.OK {
		t.Errorf("ParseDate(%q): %d, %d, not %d", s, got, e, tick)
	}
}

// holdRead holds what ParseDate answers against what is told.
func holdRead(t *testing.T, s string) {
	t.Helper()
	want, wrong := tickTold(s)
	if got, e := ParseDate(s); got != want || e != wrong {
		t.Errorf("ParseDate(%q): %d, %d, not %d, %d", s, got, e, want, wrong)
	}
}

// holdWrong holds that ParseDate answers that error alone.
func holdWrong(t *testing.T, s string, want api.Errno) {
	t.Helper()
	if got, e := ParseDate(s); got != 0 || e != want {
		t.Errorf("ParseDate(%q): %d, %d, not %d", s, got, e, want)
	}
}

// P9.1: a tick's day, and that of ticks beyond.
func TestDay(t *testing.T) {
	last := int64(api.MaxTicks / 86400)
	for tick, want := range map[int64]int64{
		0: 0, 1: 0, 86399: 0, 86400: 1, 86401: 1, 2*86400 - 1: 1, 2 * 86400: 2, 951782399: 11015, 951782400: 11016,
		api.MaxTicks: last, api.MaxTicks - 1: last, last * 86400: last, last*86400 - 1: last - 1,
		api.MaxTicks + 1: last, api.MaxTicks + 86400: last, math.MaxInt64: last,
		-1: 0, -86400: 0, -86401: 0, math.MinInt64: 0,
	} {
		if got := Day(tick); got != want {
			t.Errorf("Day(%d): %d, not %d", tick, got, want)
		}
	}
	if last != 12725829 {
		t.Errorf("the last day is %d", last)
	}
}

// P9.1: a day's stamp, and that of days below 0.
func TestText(t *testing.T) {
	for day, want := range map[int64]string{
		0: "AA", 1: "AB", 25: "AZ", 26: "A2", 31: "A7", 32: "BA", 33: "BB", 25 * 32: "ZA", 26 * 32: "2A", 1022: "76", 1023: "77",
		1024: "AA", 1025: "AB", 2047: "77", 2048: "AA", 12725829: Text(12725829 % 1024),
		math.MaxInt64: "77", math.MaxInt64 - 1: "76", -1: "AA", -1023: "AA", -1024: "AA", math.MinInt64: "AA",
	} {
		if got := Text(day); got != want {
			t.Errorf("Text(%d): %q, not %q", day, got, want)
		}
	}
	for day := range int64(5000) {
		n := int(day % 1024)
		if got, want := Text(day), letter(n/32)+letter(n%32); got != want {
			t.Errorf("Text(%d): %q, not %q", day, got, want)
		}
	}
}

// P9.1: a stamp's number, its letters small or not.
func TestParse(t *testing.T) {
	for n := range 1024 {
		high, low := letter(n/32), letter(n%32)
		for _, s := range []string{high + low, strings.ToLower(high) + low, high + strings.ToLower(low), strings.ToLower(high + low)} {
			if got, e := Parse(s); got != n || e != api.OK {
				t.Errorf("Parse(%q): %d, %d, not %d", s, got, e, n)
			}
		}
	}
}

// P9.1: what is no stamp: each pair of bytes of which one is no such letter,
// and whatever has not two.
func TestParseForm(t *testing.T) {
	hold := func(s string) {
		t.Helper()
		if n, e := Parse(s); n != 0 || e != api.ErrForm {
			t.Errorf("Parse(%q): %d, %d", s, n, e)
		}
	}
	may := 0
	for high := range 256 {
		for low := range 256 {
			s := string([]byte{byte(high), byte(low)})
			if regexp.MustCompile(`^[A-Za-z2-7]{2}$`).MatchString(s) {
				may++
				continue
			}
			hold(s)
		}
	}
	if may != 58*58 {
		t.Errorf("%d pairs may be", may)
	}
	for _, s := range []string{
		"", "A", "a", "7", "AAA", "AA ", " AA", "AA\n", "A A", "AA=", "A\x00A", "B7B7", "A0", "0A", "A1", "A8", "9A", "A-", "77777",
		// Runes whose upper or lower case is a letter of ASCII, or which look like one.
		"\u017f", "\u0131", "\u212a", "\u212aA", "A\u017f", "\u0131A", "\uff21\uff21", "\u0410\u0410", "é", "\u00b2\u00b2",
		strings.Repeat("A", 100000),
	} {
		hold(s)
	}
}

// P9.1: a stamp's age, by whichever days had it.
func TestAge(t *testing.T) {
	for _, r := range []struct {
		stamp int
		day   int64
		want  int
	}{
		{0, 0, 0}, {1, 5, 4}, {5, 5, 0}, {6, 5, 1023}, {1, 0, 1023}, {1023, 0, 1}, {1023, 1023, 0}, {0, 1023, 1023}, {0, 1024, 0}, {1023, 1024, 1},
		{63, 70, 7}, {63, 1084, 1021}, {1024, 0, 0}, {1025, 0, 1023}, {1025, 2, 1}, {2048 + 7, 1024 + 9, 2},
		// What is below 0 is as 0, not counted back.
		{-1, 0, 0}, {-1, 3, 3}, {-1023, 3, 3}, {-1024, 3, 3}, {3, -1, 1021}, {0, -1, 0}, {3, -1024, 1021}, {-5, -7, 0},
		{math.MinInt32, 9, 9}, {9, math.MinInt64, 1015}, {math.MaxInt32, 0, 1}, {0, math.MaxInt64, 1023}, {math.MaxInt32, math.MaxInt64, 0}, {math.MinInt, math.MinInt64, 0}, {math.MinInt, math.MaxInt64, 1023}, {math.MaxInt, math.MinInt64, 1},
	} {
		if got := Age(r.stamp, r.day); got != r.want {
			t.Errorf("Age(%d, %d): %d, not %d", r.stamp, r.day, got, r.want)
		}
	}
	for stamp := range 1024 {
		for age := range 1024 {
			for _, rounds := range []int{0, 1, 7, 12000} {
				day := int64(stamp + age + 1024*rounds)
				if got := Age(stamp, day); got != age {
					t.Fatalf("Age(%d, %d): %d, not %d", stamp, day, got, age)
				}
				if got := Age(stamp+1024*rounds, int64(stamp+age)); got != age {
					t.Fatalf("Age(%d, %d): %d, not %d", stamp+1024*rounds, stamp+age, got, age)
				}
			}
		}
	}
}

// P9.4: a day's own stamp is of age 0 on it, and of age n on the day that is n later.
func TestAgesOfOwnStamp(t *testing.T) {
	for _, from := range []int64{0, 1, 500, 1023, 1024, 20000, 12725829 - 1023, 12725829, 1 << 50} {
		for d := from; d < from+3; d++ {
			number, e := Parse(Text(d))
			if e != api.OK {
				t.Errorf("Parse(%q): %d", Text(d), e)
			}
			for n := range 1024 {
				if got := Age(number, d+int64(n)); got != n {
					t.Fatalf("Age(%d, %d): %d, not %d", number, d+int64(n), got, n)
				}
			}
			if got := Age(number, d+1024); got != 0 {
				t.Errorf("Age(%d, %d): %d", number, d+1024, got)
			}
		}
	}
}

// dates are dates, and their ticks.
var dates = map[int64]string{
	0:            "Thu, 01 Jan 1970 00:00:00 +0000",
	1:            "Thu, 01 Jan 1970 00:00:01 +0000",
	59:           "Thu, 01 Jan 1970 00:00:59 +0000",
	60:           "Thu, 01 Jan 1970 00:01:00 +0000",
	3599:         "Thu, 01 Jan 1970 00:59:59 +0000",
	3600:         "Thu, 01 Jan 1970 01:00:00 +0000",
	86399:        "Thu, 01 Jan 1970 23:59:59 +0000",
	86400:        "Fri, 02 Jan 1970 00:00:00 +0000",
	2682061:      "Sun, 01 Feb 1970 01:01:01 +0000",
	951782399:    "Mon, 28 Feb 2000 23:59:59 +0000",
	951782400:    "Tue, 29 Feb 2000 00:00:00 +0000",
	951868800:    "Wed, 01 Mar 2000 00:00:00 +0000",
	1000000000:   "Sun, 09 Sep 2001 01:46:40 +0000",
	1234567890:   "Fri, 13 Feb 2009 23:31:30 +0000",
	2147483647:   "Tue, 19 Jan 2038 03:14:07 +0000",
	2147483648:   "Tue, 19 Jan 2038 03:14:08 +0000",
	4107542399:   "Sun, 28 Feb 2100 23:59:59 +0000",
	4107542400:   "Mon, 01 Mar 2100 00:00:00 +0000",
	4294967296:   "Sun, 07 Feb 2106 06:28:16 +0000",
	253402300799: "Fri, 31 Dec 9999 23:59:59 +0000",
	253402300800: "Sat, 01 Jan 10000 00:00:00 +0000",
	api.MaxTicks: "Mon, 20 Feb 36812 00:36:16 +0000",
}

// P9.2: dates written out by hand.
func TestDate(t *testing.T) {
	for tick, s := range dates {
		holdDate(t, tick, s)
		if told := dateTold(tick); told != s {
			t.Errorf("of %d %q is told, not %q", tick, told, s)
		}
	}
	for _, tick := range []int64{-1, -86400, math.MinInt64} {
		if got := Date(tick); got != dates[0] {
			t.Errorf("Date(%d): %q", tick, got)
		}
	}
	for _, tick := range []int64{api.MaxTicks + 1, api.MaxTicks + 86400, math.MaxInt64} {
		if got := Date(tick); got != dates[api.MaxTicks] {
			t.Errorf("Date(%d): %q", tick, got)
		}
	}
}

// P9.2, P9.3: there and back, over each day of many years, and each second of some days.
func TestThereAndBack(t *testing.T) {
	for day := range int64(365 * 450) {
		tick := day*86400 + day*7919%86400
		holdDate(t, tick, dateTold(tick))
	}
	for _, day := range []int64{0, 11015, 11016, 11017, 2932896} {
		for second := range int64(86400) {
			holdDate(t, day*86400+second, dateTold(day*86400+second))
		}
	}
	for year := 1970; year < 36812; year++ {
		for _, at := range []time.Time{
			time.Date(year, 1, 1, 0, 0, 0, 0, time.UTC), time.Date(year, 3, 1, 0, 0, 0, -1, time.UTC),
			time.Date(year, 3, 1, 0, 0, 0, 0, time.UTC), time.Date(year, 12, 31, 23, 59, 59, 0, time.UTC),
		} {
			holdDate(t, at.Unix(), dateTold(at.Unix()))
		}
	}
	chance := rand.New(rand.NewPCG(9, 9))
	for range 50000 {
		tick := chance.Int64N(api.MaxTicks + 1)
		holdDate(t, tick, dateTold(tick))
	}
	for back := range int64(1000) {
		holdDate(t, api.MaxTicks-back, dateTold(api.MaxTicks-back))
	}
}

// noDates have not a date's form, whatever the numbers.
var noDates = []string{
	"", "x", " ", ",", "Thu", "Thu,", "Thu, 01 Jan 1970", "Thu, 01 Jan 1970 00:00:00", "Thu, 01 Jan 1970 00:00:00 ", "Thu, 01 Jan 1970 00:00:00 +000", "01 Jan 1970 00:00:00 +0000", ", 01 Jan 1970 00:00:00 +0000",
	// Other blanks, or none.
	" Thu, 01 Jan 1970 00:00:00 +0000", "Thu, 01 Jan 1970 00:00:00 +0000 ", "Thu, 01 Jan 1970 00:00:00 +0000\n", "Thu, 01 Jan 1970 00:00:00 +0000\r\n", "Thu,01 Jan 1970 00:00:00 +0000", "Thu,  01 Jan 1970 00:00:00 +0000", "Thu 01 Jan 1970 00:00:00 +0000", "Thu , 01 Jan 1970 00:00:00 +0000",
	"Thu, 01  Jan 1970 00:00:00 +0000", "Thu, 01Jan 1970 00:00:00 +0000", "Thu, 01-Jan-1970 00:00:00 +0000", "Thu, 01 Jan1970 00:00:00 +0000", "Thu, 01 Jan  1970 00:00:00 +0000", "Thu, 01 Jan 1970  00:00:00 +0000", "Thu, 01 Jan 197000:00:00 +0000", "Thu, 01 Jan 1970 00:00:00+0000", "Thu, 01 Jan 1970 00:00:00  +0000", "Thu,\t01 Jan 1970 00:00:00 +0000", "Thu, 01 Jan 1970 00:00:00\t+0000",
	// Names.
	"thu, 01 Jan 1970 00:00:00 +0000", "THU, 01 Jan 1970 00:00:00 +0000", "Thursday, 01 Jan 1970 00:00:00 +0000", "Th, 01 Jan 1970 00:00:00 +0000", "Xxx, 01 Jan 1970 00:00:00 +0000", "Jan, 01 Jan 1970 00:00:00 +0000", "SunMon, 01 Jan 1970 00:00:00 +0000",
	"Thu, 01 jan 1970 00:00:00 +0000", "Thu, 01 JAN 1970 00:00:00 +0000", "Thu, 01 January 1970 00:00:00 +0000", "Thu, 01 Ja 1970 00:00:00 +0000", "Thu, 01 Thu 1970 00:00:00 +0000", "Thu, 01 01 1970 00:00:00 +0000", "Thu, 01  1970 00:00:00 +0000", "Thu, 01 JanFeb 1970 00:00:00 +0000",
	// Numbers of more or fewer digits, or with others.
	"Thu, 1 Jan 1970 00:00:00 +0000", "Thu, 001 Jan 1970 00:00:00 +0000", "Thu,  1 Jan 1970 00:00:00 +0000", "Thu, +1 Jan 1970 00:00:00 +0000", "Thu, -1 Jan 1970 00:00:00 +0000", "Thu, 0x Jan 1970 00:00:00 +0000", "Thu, 1_ Jan 1970 00:00:00 +0000", "Thu,  Jan 1970 00:00:00 +0000",
	"Thu, 01 Jan 70 00:00:00 +0000", "Thu, 01 Jan 970 00:00:00 +0000", "Thu, 01 Jan  00:00:00 +0000", "Thu, 01 Jan -1970 00:00:00 +0000", "Thu, 01 Jan +1970 00:00:00 +0000", "Thu, 01 Jan 1_970 00:00:00 +0000", "Thu, 01 Jan 19.70 00:00:00 +0000",
	"Thu, 01 Jan 01970 00:00:00 +0000", "Thu, 01 Jan 0000001970 00:00:00 +0000", "Thu, 01 Jan 00000 00:00:00 +0000", "Sat, 01 Jan 010000 00:00:00 +0000", "Thu, 01 Jan 10000000000 00:00:00 +0000", "Thu, 01 Jan 99999999999 00:00:00 +0000", "Thu, 01 Jan 00000001970 00:00:00 +0000", "Thu, 01 Jan " + strings.Repeat("9", 100000) + " 00:00:00 +0000", "Thu, 01 Jan 18446744073709553586 00:00:00 +0000",
	"Thu, 01 Jan 1970 0:00:00 +0000", "Thu, 01 Jan 1970 000:00:00 +0000", "Thu, 01 Jan 1970 00:0:00 +0000", "Thu, 01 Jan 1970 00:000:00 +0000", "Thu, 01 Jan 1970 00:00:0 +0000", "Thu, 01 Jan 1970 00:00:000 +0000", "Thu, 01 Jan 1970 00:00 +0000", "Thu, 01 Jan 1970 00:00:00:00 +0000", "Thu, 01 Jan 1970 00.00.00 +0000", "Thu, 01 Jan 1970 000000 +0000", "Thu, 01 Jan 1970 00:00:00.0 +0000", "Thu, 01 Jan 1970 ::  +0000", "Thu, 01 Jan 1970 -1:00:00 +0000", "Thu, 01 Jan 1970 00:+1:00 +0000", "Thu, 01 Jan 1970 00: 1:00 +0000",
	"Thu, ٠١ Jan 1970 00:00:00 +0000", "Thu, 01 Jan ١٩٧٠ 00:00:00 +0000", "Thu, 01 Jan 1970 00:00:００ +0000",
	// Zones.
	"Thu, 01 Jan 1970 00:00:00 +0100", "Thu, 01 Jan 1970 00:00:00 -0000", "Thu, 01 Jan 1970 00:00:00 0000", "Thu, 01 Jan 1970 00:00:00 GMT", "Thu, 01 Jan 1970 00:00:00 Z", "Thu, 01 Jan 1970 00:00:00 +00:00", "Thu, 01 Jan 1970 00:00:00 +00000", "Thu, 01 Jan 1970 00:00:00 +0000 (x)", "Thu, 01 Jan 1970 00:00:00 +0001", "Thu, 01 Jan 1970 00:00:00 +0000Thu, 01 Jan 1970 00:00:00 +0000",
	// What is out of range besides: the form goes ahead.
	"Fri, 01 Jan 1970 00:00:00 +0100", "Fri, 99 Jan 1970 99:99:99 +0000 ", "Thu, 00 jan 1970 00:00:00 +0000", "Mon, 29 Feb 2001 00:00:60", "thu, 01 Jan 1969 24:00:00 +0000", "Thu, 32 Jan 01970 00:00:00 +0000", "Thu, 32 Xxx 9999999999 00:00:00 +0000",
}

// P9.2: what has no date's form.
func TestParseDateForm(t *testing.T) {
	for _, s := range noDates {
		holdWrong(t, s, api.ErrForm)
		holdRead(t, s)
	}
}

// outOfRange have a date's form.
var outOfRange = []string{
	// Days that are not there.
	"Wed, 00 Jan 1970 00:00:00 +0000", "Thu, 00 Jan 1970 00:00:00 +0000", "Sun, 32 Jan 1970 00:00:00 +0000", "Sun, 01 Feb 1970 24:00:00 +0000", "Sun, 29 Feb 1970 00:00:00 +0000", "Mon, 30 Feb 1970 00:00:00 +0000", "Wed, 30 Feb 2000 00:00:00 +0000", "Thu, 01 Mar 2001 24:00:00 +0000", "Thu, 29 Feb 2001 00:00:00 +0000", "Mon, 29 Feb 2001 00:00:00 +0000", "Mon, 29 Feb 2100 00:00:00 +0000", "Sat, 29 Feb 2200 00:00:00 +0000", "Wed, 29 Feb 1900 00:00:00 +0000",
	"Fri, 31 Apr 1970 00:00:00 +0000", "Mon, 31 Jun 1970 00:00:00 +0000", "Thu, 31 Sep 1970 00:00:00 +0000", "Tue, 31 Nov 1970 00:00:00 +0000", "Fri, 32 Dec 1970 00:00:00 +0000", "Fri, 99 Jan 1970 00:00:00 +0000", "Fri, 99 Dec 1970 00:00:00 +0000", "Tue, 00 Mar 2000 00:00:00 +0000",
	// Hours, minutes, seconds that are not there, with the weekday of either day.
	"Thu, 01 Jan 1970 24:00:00 +0000", "Fri, 01 Jan 1970 24:00:00 +0000", "Thu, 01 Jan 1970 25:00:00 +0000", "Thu, 01 Jan 1970 99:00:00 +0000", "Thu, 01 Jan 1970 00:60:00 +0000", "Thu, 01 Jan 1970 00:99:00 +0000", "Thu, 01 Jan 1970 00:00:60 +0000", "Thu, 01 Jan 1970 00:00:61 +0000", "Thu, 01 Jan 1970 00:00:99 +0000", "Thu, 01 Jan 1970 23:59:60 +0000", "Fri, 01 Jan 1970 23:59:60 +0000", "Sat, 31 Dec 2016 23:59:60 +0000", "Thu, 01 Jan 1970 99:99:99 +0000",
	// Another weekday.
	"Sun, 01 Jan 1970 00:00:00 +0000", "Mon, 01 Jan 1970 00:00:00 +0000", "Tue, 01 Jan 1970 00:00:00 +0000", "Wed, 01 Jan 1970 00:00:00 +0000", "Fri, 01 Jan 1970 00:00:00 +0000", "Sat, 01 Jan 1970 00:00:00 +0000", "Wed, 29 Feb 2000 00:00:00 +0000", "Thu, 20 Feb 36812 00:36:16 +0000",
	// Ticks beyond.
	"Wed, 31 Dec 1969 23:59:59 +0000", "Wed, 31 Dec 1969 24:00:00 +0000", "Wed, 31 Dec 1969 00:00:00 +0000", "Thu, 01 Jan 1869 00:00:00 +0000", "Sat, 01 Jan 0000 00:00:00 +0000", "Tue, 29 Feb 0000 00:00:00 +0000", "Mon, 01 Jan 0001 00:00:00 +0000", "Mon, 20 Feb 36812 00:36:17 +0000", "Mon, 20 Feb 36812 00:37:16 +0000", "Tue, 21 Feb 36812 00:00:00 +0000", "Tue, 31 Dec 36812 23:59:59 +0000", "Fri, 01 Jan 99999 00:00:00 +0000", "Fri, 01 Jan 9999999999 00:00:00 +0000", "Fri, 31 Dec 9999999999 23:59:59 +0000", "Sat, 01 Jan 1000000000 00:00:00 +0000",
}

// P9.2: what has a date's form, and is out of range.
func TestParseDateRange(t *testing.T) {
	for _, s := range outOfRange {
		holdWrong(t, s, api.ErrRange)
		holdRead(t, s)
	}
	// Of whatever is beyond, no weekday is the right one.
	for _, weekday := range strings.Fields("Sun Mon Tue Wed Thu Fri Sat") {
		for _, year := range []string{"0000", "0004", "1000", "1968", "1969", "36813", "36814", "100000", "9999999999", "4294969266", "8589936562"} {
			for _, month := range strings.Fields(names) {
				for _, of := range []string{"00", "01", "28", "29", "31", "32"} {
					s := weekday + ", " + of + " " + month + " " + year + " 00:00:00 +0000"
					holdWrong(t, s, api.ErrRange)
				}
			}
		}
	}
}

// P9.2: each number of each two digits, each weekday, and each month.
func TestParseDateNumbers(t *testing.T) {
	ok := 0
	hold := func(s string) {
		t.Helper()
		holdRead(t, s)
		if _, e := ParseDate(s); e == api.OK {
			ok++
		}
	}
	for n := range 100 {
		two := string([]byte{byte('0' + n/10), byte('0' + n%10)})
		for _, weekday := range strings.Fields("Sun Mon Tue Wed Thu Fri Sat") {
			for _, month := range strings.Fields(names) {
				for _, year := range []string{"1969", "1970", "1972", "2000", "2001", "2100", "2400", "10000", "36812"} {
					hold(weekday + ", " + two + " " + month + " " + year + " 00:00:00 +0000")
				}
			}
			hold(weekday + ", 31 Dec 1999 " + two + ":00:00 +0000")
			hold(weekday + ", 31 Dec 1999 00:" + two + ":00 +0000")
			hold(weekday + ", 31 Dec 1999 23:59:" + two + " +0000")
		}
	}
	// Seven years are there wholly, four of them with a 29 Feb, and the last one till 20 Feb.
	if want := 7*365 + 4 + 31 + 20 + 24 + 60 + 60; ok != want {
		t.Errorf("%d are dates, not %d", ok, want)
	}
}

// P9.2, P9.3: each byte, at each place of a date; what is read has just that text.
func TestParseDateBytes(t *testing.T) {
	for _, s := range dates {
		for c := range 256 {
			one := string([]byte{byte(c)})
			for i := range len(s) + 1 {
				for _, other := range []string{s[:i] + one + s[i:], s[:i] + one + s[min(i+1, len(s)):]} {
					holdRead(t, other)
					if tick, e := ParseDate(other); e == api.OK && Date(tick) != other {
						t.Errorf("ParseDate(%q): %d, which is %q", other, tick, Date(tick))
					}
				}
			}
		}
		for i := range len(s) {
			holdWrong(t, s[:i], api.ErrForm)
			holdWrong(t, s[i+1:], api.ErrForm)
			holdRead(t, s[:i]+s[i+1:])
		}
		holdWrong(t, s+s, api.ErrForm)
	}
}

// P9.5: one tick more is one second more; a day more the next weekday.
func TestOneMore(t *testing.T) {
	const days = "Sun Mon Tue Wed Thu Fri Sat Sun"
	clock := func(s string) int {
		n := 0
		for _, part := range strings.Split(s[len(s)-14:len(s)-6], ":") {
			two, _ := strconv.Atoi(part)
			n = n*60 + two
		}
		return n
	}
	hold := func(tick int64) {
		t.Helper()
		s, next, other := Date(tick), Date(tick+1), Date(tick+86400)
		if clock(next) != (clock(s)+1)%86400 || (next[:len(next)-15] == s[:len(s)-15]) != (clock(next) > 0) {
			t.Errorf("behind %q: %q", s, next)
		}
		if other[:3] != days[strings.Index(days, s[:3])+4:][:3] || clock(other) != clock(s) {
			t.Errorf("a day behind %q: %q", s, other)
		}
	}
	for day := range int64(20000) {
		hold(day*86400 + 86399)
		hold(day * 86400)
		hold(day*86400 + day*4801%86400)
	}
	for back := range int64(20000) {
		hold(api.MaxTicks - 86400 - back)
		hold(api.MaxTicks - 86400 - back*86400)
	}
}

// Rule R1: whatever bytes, and whatever numbers: each call answers.
func TestAny(t *testing.T) {
	chance := rand.New(rand.NewPCG(1, 9))
	pieces := []string{"Sun", "Thu", "Jan", "Feb", ", ", " ", ":", "00", "01", "29", "1970", "2000", " +0000", "+", "0", "9", "\xff"}
	for range 100000 {
		s := ""
		for range chance.IntN(16) {
			s += pieces[chance.IntN(len(pieces))]
		}
		holdRead(t, s)
		Parse(s)
	}
	for range 100000 {
		n := int64(chance.Uint64() >> chance.IntN(64))
		for _, n := range []int64{n, -n, ^n} {
			if day := Day(n); day < 0 || day > 12725829 {
				t.Errorf("Day(%d): %d", n, day)
			}
			if age := Age(int(max(n, 0)%1024), n); age != 0 {
				t.Errorf("Age of its own stamp on %d: %d", n, age)
			}
			want := min(max(n, 0), api.MaxTicks)
			if got, e := ParseDate(Date(n)); got != want || e != api.OK {
				t.Errorf("ParseDate(Date(%d)): %d, %d", n, got, e)
			}
			if number, e := Parse(Text(n)); e != api.OK || number != int(max(n, 0)%1024) {
				t.Errorf("Parse(Text(%d)): %d, %d", n, number, e)
			}
		}
	}
	for _, s := range []string{" ", ":", "Thu, ", "0", "Thu, 01 ", ",", "\xff", " +0000"} {
		holdWrong(t, strings.Repeat(s, 100000), api.ErrForm)
	}
}
