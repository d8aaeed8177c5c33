package moment

import (
	"fmt"
	"math"
	"slices"
	"strconv"
	"strings"
	"testing"
	"time"

	"solstice/api"
	"solstice/clock"
	"solstice/day"
)

const (
	week    = 604800  // a moment's seconds, at most
	most    = 1 << 40 // an instant's
	daySecs = 86400
)

var (
	letters    = []string{"", "s", "u"} // of the clocks, in a text
	monthTexts = strings.Fields("Jan Feb Mar Apr May Jun Jul Aug Sep Oct Nov Dec")
	farSeconds = []int64{-week - 1, week + 1, -most, most, math.MinInt32, math.MaxInt32, math.MinInt64, math.MinInt64 + 1, math.MaxInt64}
	noClocks   = []api.ClockKind{api.ClockCount, api.ClockCount + 1, 127, 128, 255}
)

// wrongMoments is moments that are not right.
func wrongMoments() []api.Moment {
	var out []api.Moment
	for _, sec := range farSeconds {
		for c := api.ClockWall; c < api.ClockCount; c++ {
			out = append(out, api.Moment{Sec: sec, Clock: c})
		}
	}
	for _, c := range noClocks {
		out = append(out, api.Moment{Clock: c}, api.Moment{Sec: 7200, Clock: c}, api.Moment{Sec: week + 1, Clock: c})
	}
	return out
}

// Promises 7.1 and 7.4: each moment that is right is so, has its text, and is read from it.
func TestRightMoments(t *testing.T) {
	for sec := int64(-week); sec <= week; sec++ {
		for c := api.ClockWall; c < api.ClockCount; c++ {
			m := api.Moment{Sec: sec, Clock: c}
			want := clock.Text(sec) + letters[c]
			text, why := Text(m)
			if text != want || why != api.OK || Check(m) != api.OK {
				t.Fatalf("Text(%v) is %q, %d, not %q; Check is %d", m, text, why, want, Check(m))
			}
			if got, why := Parse(text); got != m || why != api.OK {
				t.Fatalf("Parse(%q) is %v, %d, not %v", text, got, why, m)
			}
		}
	}
}

// Promise 7.1: moments that are not right.
func TestWrongMoments(t *testing.T) {
	for _, m := range wrongMoments() {
		if why := Check(m); why != api.ErrForm {
			t.Errorf("Check(%v) is %d", m, why)
		}
		if text, why := Text(m); text != "" || why != api.ErrForm {
			t.Errorf("Text(%v) is %q, %d", m, text, why)
		}
	}
}

// Promise 7.1: texts of moments that are told by name.
func TestMomentTexts(t *testing.T) {
	for text, m := range map[string]api.Moment{
		"0:00":      {},
		"0:00s":     {Clock: api.ClockStandard},
		"0:00u":     {Clock: api.ClockUniversal},
		"2:00":      {Sec: 7200},
		"2:00s":     {Sec: 7200, Clock: api.ClockStandard},
		"1:00u":     {Sec: 3600, Clock: api.ClockUniversal},
		"-2:30:05":  {Sec: -9005},
		"-0:00:01u": {Sec: -1, Clock: api.ClockUniversal},
		"24:00":     {Sec: 86400},
		"168:00s":   {Sec: week, Clock: api.ClockStandard},
		"-168:00":   {Sec: -week},
	} {
		if got, why := Text(m); got != text || why != api.OK {
			t.Errorf("Text(%v) is %q, %d, not %q", m, got, why, text)
		}
	}
}

// Promise 7.1: texts that are not as they would be written, and tell a moment.
func TestParseOther(t *testing.T) {
	for s, want := range map[string]api.Moment{
		"-":          {},
		"0":          {},
		"0w":         {},
		"-0W":        {},
		"2":          {Sec: 7200},
		"2w":         {Sec: 7200},
		"2:00W":      {Sec: 7200},
		"02:00s":     {Sec: 7200, Clock: api.ClockStandard},
		"2:00S":      {Sec: 7200, Clock: api.ClockStandard},
		"1:00u":      {Sec: 3600, Clock: api.ClockUniversal},
		"1:00U":      {Sec: 3600, Clock: api.ClockUniversal},
		"1:00g":      {Sec: 3600, Clock: api.ClockUniversal},
		"1:00G":      {Sec: 3600, Clock: api.ClockUniversal},
		"1:00z":      {Sec: 3600, Clock: api.ClockUniversal},
		"001:00:00Z": {Sec: 3600, Clock: api.ClockUniversal},
		"-1s":        {Sec: -3600, Clock: api.ClockStandard},
		"-168:00:00": {Sec: -week},
		"168g":       {Sec: week, Clock: api.ClockUniversal},
	} {
		if got, why := Parse(s); got != want || why != api.OK {
			t.Errorf("Parse(%q) is %v, %d, not %v", s, got, why, want)
		}
	}
}

// Promise 7.1: each byte behind a time; w, s, u, g and z alone are letters of clocks.
func TestParseLetters(t *testing.T) {
	kinds := map[byte]api.ClockKind{
		'w': api.ClockWall, 's': api.ClockStandard, 'u': api.ClockUniversal, 'g': api.ClockUniversal, 'z': api.ClockUniversal,
	}
	for i := range 256 {
		s := "-2:30:05" + string([]byte{byte(i)})
		want, why := api.Moment{}, api.ErrSyntax
		if kind, ok := kinds[byte(i)|32]; ok && (i >= 'a' || i <= 'Z') && i < 128 {
			want, why = api.Moment{Sec: -9005, Clock: kind}, api.OK
		}
		if got, w := Parse(s); got != want || w != why {
			t.Errorf("Parse(%q) is %v, %d, not %v, %d", s, got, w, want, why)
		}
	}
}

// Promise 7.1: texts that tell no moment, with the errors of clock.Parse.
func TestParseWrong(t *testing.T) {
	syntax := []string{
		"", " ", "w", "s", "u", "g", "z", "-w", "-s", "-u", "--", "+", "+1", "-+1", "1:", "1:0", "1:60", "1:000", "1:00:60", "1:00:00:00", "1000", "x", "1x", "a1",
		"2:00ws", "2:00sw", "2:00ss", "2:00uu", "2:00ww", "2:00 s", "2:00s ", " 2:00", "s2:00", "w2", "2s:00", "2:00d", "2:00utc", "2:00gmt", "-2:00-", "2:00-",
		"2:00\x00", "2:00\u017f", "2:00\x73\x00", "999:60", "999:60u", "1.5s", ":00", ":", "0001s", strings.Repeat("1", 5000), strings.Repeat("s", 5000), "1" + strings.Repeat("s", 5000),
	}
	for _, s := range syntax {
		if got, why := Parse(s); got != (api.Moment{}) || why != api.ErrSyntax {
			t.Errorf("Parse(%q) is %v, %d", s, got, why)
		}
	}
	for _, s := range []string{"169", "168:00:01", "-168:00:01", "168:00:01s", "168:01u", "-169W", "999:59:59z", "-999g"} {
		if got, why := Parse(s); got != (api.Moment{}) || why != api.ErrRange {
			t.Errorf("Parse(%q) is %v, %d", s, got, why)
		}
	}
}

// Promise 7.2: nominal times, whatever the clock, by the library's calendar.
func TestNominal(t *testing.T) {
	for _, c := range []struct {
		on   string
		y, m int
		want time.Time
	}{
		{"1", 1970, 1, time.Date(1970, 1, 1, 0, 0, 0, 0, time.UTC)},
		{"lastSun", 2026, 3, time.Date(2026, 3, 29, 0, 0, 0, 0, time.UTC)},
		{"Sun>=8", 2026, 3, time.Date(2026, 3, 8, 0, 0, 0, 0, time.UTC)},
		{"Sun>=29", 2024, 2, time.Date(2024, 3, 3, 0, 0, 0, 0, time.UTC)},
		{"Sat<=1", 2026, 1, time.Date(2025, 12, 27, 0, 0, 0, 0, time.UTC)},
		{"29", 2024, 2, time.Date(2024, 2, 29, 0, 0, 0, 0, time.UTC)},
		{"1", 1, 1, time.Date(1, 1, 1, 0, 0, 0, 0, time.UTC)},
		{"31", 9999, 12, time.Date(9999, 12, 31, 0, 0, 0, 0, time.UTC)},
	} {
		on, why := day.Parse(c.on)
		if why != api.OK {
			t.Fatalf("day.Parse(%q) is %d", c.on, why)
		}
		for _, sec := range []int64{-week, -86400, -1, 0, 1, 7200, 86399, 86400, week} {
			for kind := api.ClockWall; kind < api.ClockCount; kind++ {
				at := api.Moment{Sec: sec, Clock: kind}
				if got, why := Nominal(c.y, c.m, on, at); got != c.want.Unix()+sec || why != api.OK {
					t.Errorf("Nominal(%d, %d, %s, %v) is %d, %d, not %d", c.y, c.m, c.on, at, got, why, c.want.Unix()+sec)
				}
			}
		}
	}
}

// Promise 7.2: what has no nominal time; of several errors the one that is named first.
func TestNominalWrong(t *testing.T) {
	first := api.Day{Kind: api.DayFixed, N: 1}
	last := api.Day{Kind: api.DayFixed, N: 31}
	far := api.Moment{Sec: week + 1}
	for _, c := range []struct {
		y, m int
		on   api.Day
		at   api.Moment
		why  api.Errno
	}{
		{2026, 1, first, far, api.ErrForm},
		{2026, 1, first, api.Moment{Sec: -week - 1}, api.ErrForm},
		{2026, 1, first, api.Moment{Clock: api.ClockCount}, api.ErrForm},
		{0, 13, api.Day{}, far, api.ErrForm},
		{0, 1, first, far, api.ErrForm},
		{2026, 2, last, far, api.ErrForm},
		{2026, 1, api.Day{}, api.Moment{}, api.ErrForm},
		{0, 1, api.Day{}, api.Moment{}, api.ErrForm},
		{2026, 1, api.Day{Kind: api.DayCount, N: 1}, api.Moment{}, api.ErrForm},
		{0, 1, first, api.Moment{}, api.ErrRange},
		{10000, 1, first, api.Moment{}, api.ErrRange},
		{2026, 0, first, api.Moment{}, api.ErrRange},
		{2026, 13, last, api.Moment{}, api.ErrRange},
		{math.MinInt, math.MaxInt, first, api.Moment{}, api.ErrRange},
		{2026, 2, last, api.Moment{}, api.ErrNone},
		{2026, 4, last, api.Moment{Sec: 3600, Clock: api.ClockUniversal}, api.ErrNone},
		{1, 1, api.Day{Kind: api.DayUpto, N: 1, Dow: 0}, api.Moment{Sec: week}, api.ErrRange},
		{9999, 12, api.Day{Kind: api.DayFrom, N: 31, Dow: 6}, api.Moment{Sec: -week}, api.ErrRange},
	} {
		if got, why := Nominal(c.y, c.m, c.on, c.at); got != 0 || why != c.why {
			t.Errorf("Nominal(%d, %d, %v, %v) is %d, %d, not %d", c.y, c.m, c.on, c.at, got, why, c.why)
		}
	}
}

// Promise 7.2: instants of nominal times, by each clock.
func TestInstant(t *testing.T) {
	near := []int64{0, 1, -1, 3600, -3600, 7200, 1774749600, most - 1, 1 - most, most, -most}
	for _, nominal := range near {
		for _, std := range near {
			for _, save := range near {
				want := []int64{nominal - std - save, nominal - std, nominal}
				for c := api.ClockWall; c < api.ClockCount; c++ {
					if got, why := Instant(nominal, c, std, save); got != want[c] || why != api.OK {
						t.Fatalf("Instant(%d, %d, %d, %d) is %d, %d, not %d", nominal, c, std, save, got, why, want[c])
					}
				}
			}
		}
	}
}

// Promise 7.2: what has no instant; that there is no such clock is told first.
func TestInstantWrong(t *testing.T) {
	far := []int64{most + 1, -most - 1, math.MaxInt64, math.MinInt64, math.MinInt64 + 1}
	for _, f := range far {
		for _, l := range [][3]int64{{f, 0, 0}, {0, f, 0}, {0, 0, f}, {f, f, f}, {f, -f, 0}, {most, -most, f}} {
			for c := api.ClockWall; c < api.ClockCount; c++ {
				if got, why := Instant(l[0], c, l[1], l[2]); got != 0 || why != api.ErrRange {
					t.Errorf("Instant(%d, %d, %d, %d) is %d, %d", l[0], c, l[1], l[2], got, why)
				}
			}
			if got, why := Instant(l[0], api.ClockCount, l[1], l[2]); got != 0 || why != api.ErrForm {
				t.Errorf("Instant(%d, ClockCount, %d, %d) is %d, %d", l[0], l[1], l[2], got, why)
			}
		}
	}
	for _, c := range noClocks {
		if got, why := Instant(7200, c, 3600, 3600); got != 0 || why != api.ErrForm {
			t.Errorf("Instant by the clock %d is %d, %d", c, got, why)
		}
	}
}

// someUntils is untils that are right, with parts that need not be told and parts that must.
func someUntils() []api.Until {
	days := []api.Day{
		{Kind: api.DayFixed, N: 1}, {Kind: api.DayFixed, N: 2}, {Kind: api.DayFixed, N: 31}, {Kind: api.DayLast, Dow: 0}, {Kind: api.DayLast, Dow: 6},
		{Kind: api.DayFrom, N: 1, Dow: 0}, {Kind: api.DayFrom, N: 31, Dow: 6}, {Kind: api.DayUpto, N: 1, Dow: 1}, {Kind: api.DayUpto, N: 25, Dow: 5},
	}
	var out []api.Until
	for _, y := range []int{1, 2, 9, 10, 99, 100, 999, 1000, 1970, 2026, 9999} {
		for m := 1; m <= 12; m++ {
			for _, on := range days {
				for _, sec := range []int64{0, 1, -1, 7200, 86400, week, -week} {
					for c := api.ClockWall; c < api.ClockCount; c++ {
						out = append(out, api.Until{Year: y, Month: m, On: on, At: api.Moment{Sec: sec, Clock: c}})
					}
				}
			}
		}
	}
	return out
}

// textsOf is the texts of a right until, found in another way.
func textsOf(u api.Until) []string {
	on, _ := day.Text(u.On)
	l := []string{fmt.Sprint(u.Year), monthTexts[u.Month-1], on, clock.Text(u.At.Sec) + letters[u.At.Clock]}
	if u.At != (api.Moment{}) {
		return l
	}
	if u.On != (api.Day{Kind: api.DayFixed, N: 1}) {
		return l[:3]
	}
	if u.Month != 1 {
		return l[:2]
	}
	return l[:1]
}

// Promises 7.3 and 7.4: untils that are right are so, have their texts, with no room behind them, and are read from them.
func TestRightUntils(t *testing.T) {
	for _, u := range someUntils() {
		want := textsOf(u)
		l, why := TextUntil(u)
		if !slices.Equal(l, want) || why != api.OK || CheckUntil(u) != api.OK {
			t.Fatalf("TextUntil(%v) is %q, %d, not %q; CheckUntil is %d", u, l, why, want, CheckUntil(u))
		}
		if cap(l) != len(l) {
			t.Fatalf("TextUntil(%v) has room for %d behind its texts", u, cap(l)-len(l))
		}
		if got, at, why := ParseUntil(l); got != u || at != 0 || why != api.OK {
			t.Fatalf("ParseUntil(%q) is %v, %d, %d, not %v", l, got, at, why, u)
		}
	}
}

// Promises 7.3 and 7.4: every year, with the months by turns.
func TestYears(t *testing.T) {
	for y := 1; y <= 9999; y++ {
		m := y%12 + 1
		u := api.Until{Year: y, Month: m, On: api.Day{Kind: api.DayFixed, N: 1}}
		want := []string{strconv.Itoa(y), monthTexts[m-1]}
		if m == 1 {
			want = want[:1]
		}
		l, why := TextUntil(u)
		if !slices.Equal(l, want) || why != api.OK {
			t.Fatalf("TextUntil(%v) is %q, %d", u, l, why)
		}
		if got, at, why := ParseUntil(l); got != u || at != 0 || why != api.OK {
			t.Fatalf("ParseUntil(%q) is %v, %d, %d", l, got, at, why)
		}
	}
}

// Promise 7.3: what is left away is at the end alone, and only where nothing behind it is told.
func TestTextUntil(t *testing.T) {
	for _, c := range []struct{ u, want string }{
		{"1", "1"},
		{"1 Jan 1 0:00", "1"},
		{"1996 Jan 1 0:00s", "1996 Jan 1 0:00s"},
		{"1996 Jan 1 0:00u", "1996 Jan 1 0:00u"},
		{"1996 Jan 1 -", "1996"},
		{"1996 Jan 2 0:00", "1996 Jan 2"},
		{"1996 Jan Sun>=1 0:00", "1996 Jan Sun>=1"},
		{"1996 Feb 1 0:00", "1996 Feb"},
		{"1996 Feb 1 2:00", "1996 Feb 1 2:00"},
		{"1996 Jan 1 0:00:01", "1996 Jan 1 0:00:01"},
		{"0001 december LASTsaturday 24w", "1 Dec lastSat 24:00"},
	} {
		u, at, why := ParseUntil(strings.Fields(c.u))
		if at != 0 || why != api.OK {
			t.Fatalf("ParseUntil(%q) is wrong: %d, %d", c.u, at, why)
		}
		if got, why := TextUntil(u); strings.Join(got, " ") != c.want || why != api.OK {
			t.Errorf("TextUntil of %q is %q, %d", c.u, got, why)
		}
	}
}

// Promise 7.3: untils that are not right.
func TestWrongUntils(t *testing.T) {
	first := api.Day{Kind: api.DayFixed, N: 1}
	wrong := []api.Until{{}, {Year: 2026, Month: 1}, {Year: 2026, On: first}, {Month: 1, On: first}}
	for _, y := range []int{0, -1, 10000, math.MinInt, math.MaxInt} {
		wrong = append(wrong, api.Until{Year: y, Month: 1, On: first})
	}
	for _, m := range []int{0, -1, 13, math.MinInt, math.MaxInt} {
		wrong = append(wrong, api.Until{Year: 2026, Month: m, On: first})
	}
	for _, on := range []api.Day{
		{Kind: api.DayFixed, N: -1}, {Kind: api.DayFixed, N: 32}, {Kind: api.DayFixed, N: 1, Dow: 1}, {Kind: api.DayLast, N: 1}, {Kind: api.DayFrom, N: 1, Dow: 7}, {Kind: api.DayCount, N: 1},
	} {
		wrong = append(wrong, api.Until{Year: 2026, Month: 1, On: on})
	}
	for _, m := range wrongMoments() {
		wrong = append(wrong, api.Until{Year: 2026, Month: 1, On: first, At: m})
	}
	for _, u := range wrong {
		if why := CheckUntil(u); why != api.ErrForm {
			t.Errorf("CheckUntil(%v) is %d", u, why)
		}
		if l, why := TextUntil(u); len(l) != 0 || why != api.ErrForm {
			t.Errorf("TextUntil(%v) is %q, %d", u, l, why)
		}
	}
	// A day that no such month has is right nevertheless.
	if why := CheckUntil(api.Until{Year: 2026, Month: 2, On: api.Day{Kind: api.DayFixed, N: 31}}); why != api.OK {
		t.Errorf("the 31st of February is %d", why)
	}
}

// Promise 7.3: texts that are not as they would be written, and tell an until.
func TestParseUntilOther(t *testing.T) {
	first := api.Day{Kind: api.DayFixed, N: 1}
	for s, want := range map[string]api.Until{
		"1":                    {Year: 1, Month: 1, On: first},
		"01":                   {Year: 1, Month: 1, On: first},
		"0010":                 {Year: 10, Month: 1, On: first},
		"9999 d":               {Year: 9999, Month: 12, On: first},
		"1996 Jan 1 0:00":      {Year: 1996, Month: 1, On: first},
		"1996 JANUARY 01 -":    {Year: 1996, Month: 1, On: first},
		"1996 sept lastSun":    {Year: 1996, Month: 9, On: api.Day{Kind: api.DayLast}},
		"1996 o su>=08 1:00s":  {Year: 1996, Month: 10, On: api.Day{Kind: api.DayFrom, N: 8}, At: api.Moment{Sec: 3600, Clock: api.ClockStandard}},
		"1996 Feb 31 -168Z":    {Year: 1996, Month: 2, On: api.Day{Kind: api.DayFixed, N: 31}, At: api.Moment{Sec: -week, Clock: api.ClockUniversal}},
		"1945 Aug 14 23:00u":   {Year: 1945, Month: 8, On: api.Day{Kind: api.DayFixed, N: 14}, At: api.Moment{Sec: 82800, Clock: api.ClockUniversal}},
		"1883 Nov 18 12:03:58": {Year: 1883, Month: 11, On: api.Day{Kind: api.DayFixed, N: 18}, At: api.Moment{Sec: 43438}},
		"1922 jun Fri<=25 24w": {Year: 1922, Month: 6, On: api.Day{Kind: api.DayUpto, N: 25, Dow: 5}, At: api.Moment{Sec: daySecs}},
	} {
		if got, at, why := ParseUntil(strings.Fields(s)); got != want || at != 0 || why != api.OK {
			t.Errorf("ParseUntil(%q) is %v, %d, %d, not %v", s, got, at, why, want)
		}
	}
}

// Promise 7.3: texts that tell no until: the place of the first one that is none, and why.
func TestParseUntilWrong(t *testing.T) {
	for _, c := range []struct {
		l   []string
		at  int
		why api.Errno
	}{
		{nil, 0, api.ErrShort},
		{[]string{}, 0, api.ErrShort},
		{[]string{"1996", "Jan", "1", "0:00", ""}, 4, api.ErrLong},
		{[]string{"x", "x", "x", "x", "x"}, 4, api.ErrLong},
		{make([]string, 5000), 4, api.ErrLong},
		{[]string{"1996", ""}, 1, api.ErrName},
		{[]string{"1996", "Ju"}, 1, api.ErrName},
		{[]string{"1996", "1", "x", "x"}, 1, api.ErrName},
		{[]string{"1996", "Janx", "0", ""}, 1, api.ErrName},
		{[]string{"1996", "Jan", ""}, 2, api.ErrSyntax},
		{[]string{"1996", "Jan", "0"}, 2, api.ErrSyntax},
		{[]string{"1996", "Jan", "32", "169"}, 2, api.ErrSyntax},
		{[]string{"1996", "Jan", "lastT", "0:00"}, 2, api.ErrSyntax},
		{[]string{"1996", "Jan", "-", "-"}, 2, api.ErrSyntax},
		{[]string{"1996", "Jan", "1", ""}, 3, api.ErrSyntax},
		{[]string{"1996", "Jan", "1", "2:60"}, 3, api.ErrSyntax},
		{[]string{"1996", "Jan", "1", "2:00x"}, 3, api.ErrSyntax},
		{[]string{"1996", "Jan", "1", "169"}, 3, api.ErrRange},
		{[]string{"1996", "Jan", "1", "-168:00:01s"}, 3, api.ErrRange},
	} {
		if got, at, why := ParseUntil(c.l); got != (api.Until{}) || at != c.at || why != c.why {
			t.Errorf("ParseUntil(%.60q) is %v, %d, %d, not %d, %d", c.l, got, at, why, c.at, c.why)
		}
	}
	years := []string{
		"", "0", "00", "0000", "00001", "10000", "19960", "-1", "-", "+1", "1 ", " 1", "1a", "a1", "x", "Jan", "1.", "199\u0666", "/", ":", "1:", "max", "0x1", "1_0",
		"4294967297", "18446744073709551617", strings.Repeat("0", 5000) + "1",
	}
	for _, y := range years {
		for _, l := range [][]string{{y}, {y, "x"}, {y, "Jan", "1", "0:00"}, {y, "x", "x", "169"}} {
			if got, at, why := ParseUntil(l); got != (api.Until{}) || at != 0 || why != api.ErrSyntax {
				t.Errorf("ParseUntil(%.60q) is %v, %d, %d", l, got, at, why)
			}
		}
	}
}

// Promise 7.3: texts that are handed in are not changed, and lists that are answered are not shared.
func TestUntilKeepsTexts(t *testing.T) {
	l := []string{"0996", "JAN", "01", "-"}
	u, _, _ := ParseUntil(l)
	if !slices.Equal(l, []string{"0996", "JAN", "01", "-"}) {
		t.Errorf("the texts are %q", l)
	}
	a, _ := TextUntil(u)
	a[0] = "x"
	if b, _ := TextUntil(u); !slices.Equal(b, []string{"996"}) {
		t.Errorf("the texts are %q", b)
	}
}
