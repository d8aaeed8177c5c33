package day

import (
	"math"
	"strconv"
	"strings"
	"testing"
	"time"

	"solstice/api"
)

var weekdayTexts = strings.Fields("Sun Mon Tue Wed Thu Fri Sat")

// rightDays is all days that are right, with their texts.
func rightDays() map[api.Day]string {
	out := map[api.Day]string{}
	for n := 1; n <= 31; n++ {
		digits := strconv.Itoa(n)
		out[api.Day{Kind: api.DayFixed, N: n}] = digits
		for dow, name := range weekdayTexts {
			out[api.Day{Kind: api.DayFrom, N: n, Dow: dow}] = name + ">=" + digits
			out[api.Day{Kind: api.DayUpto, N: n, Dow: dow}] = name + "<=" + digits
		}
	}
	for dow, name := range weekdayTexts {
		out[api.Day{Kind: api.DayLast, Dow: dow}] = "last" + name
	}
	return out
}

// nearDays is days that are right, and such as are not, around each edge.
func nearDays() []api.Day {
	var out []api.Day
	kinds := []api.DayKind{api.DayFixed, api.DayLast, api.DayFrom, api.DayUpto, api.DayCount, 5, 255}
	far := []int{math.MinInt, math.MinInt32, math.MaxInt32, math.MaxInt}
	for _, kind := range kinds {
		for n := -2; n <= 34; n++ {
			for dow := -2; dow <= 9; dow++ {
				out = append(out, api.Day{Kind: kind, N: n, Dow: dow})
			}
		}
		for _, n := range far {
			out = append(out, api.Day{Kind: kind, N: n}, api.Day{Kind: kind, Dow: n}, api.Day{Kind: kind, N: 1, Dow: n})
		}
	}
	return out
}

// Promise 6.1: days that are right, and no others, are so, and have their texts.
func TestCheckText(t *testing.T) {
	right := rightDays()
	for _, d := range nearDays() {
		want, ok := right[d]
		why := api.ErrForm
		if ok {
			why = api.OK
		}
		if got := Check(d); got != why {
			t.Errorf("Check(%v) is %d, not %d", d, got, why)
		}
		if got, w := Text(d); got != want || w != why {
			t.Errorf("Text(%v) is %q, %d, not %q, %d", d, got, w, want, why)
		}
	}
}

// Promise 6.1 and 6.3: a right day is read from its text.
func TestParseRight(t *testing.T) {
	for d, s := range rightDays() {
		if got, why := Parse(s); got != d || why != api.OK {
			t.Errorf("Parse(%q) is %v, %d", s, got, why)
		}
	}
}

// Promise 6.1: texts that are not as they would be written, and tell a day.
func TestParseOther(t *testing.T) {
	for s, want := range map[string]api.Day{
		"01":               {Kind: api.DayFixed, N: 1},
		"09":               {Kind: api.DayFixed, N: 9},
		"LASTsun":          {Kind: api.DayLast, Dow: 0},
		"LaStSATURDAY":     {Kind: api.DayLast, Dow: 6},
		"lastm":            {Kind: api.DayLast, Dow: 1},
		"lastTu":           {Kind: api.DayLast, Dow: 2},
		"su>=08":           {Kind: api.DayFrom, N: 8, Dow: 0},
		"SUNDAY>=1":        {Kind: api.DayFrom, N: 1, Dow: 0},
		"f>=31":            {Kind: api.DayFrom, N: 31, Dow: 5},
		"w<=25":            {Kind: api.DayUpto, N: 25, Dow: 3},
		"thursDAY<=07":     {Kind: api.DayUpto, N: 7, Dow: 4},
		"Wednesd>=31":      {Kind: api.DayFrom, N: 31, Dow: 3},
		"lAsTwEdNeSdAy":    {Kind: api.DayLast, Dow: 3},
		"saturda<=01":      {Kind: api.DayUpto, N: 1, Dow: 6},
		"lastth":           {Kind: api.DayLast, Dow: 4},
		"last" + "TUESDAY": {Kind: api.DayLast, Dow: 2},
	} {
		if got, why := Parse(s); got != want || why != api.OK {
			t.Errorf("Parse(%q) is %v, %d, not %v", s, got, why, want)
		}
	}
}

// Promise 6.1: texts that tell no right day.
func TestParseWrong(t *testing.T) {
	for _, s := range []string{
		"", " ", "0", "00", "32", "99", "001", "100", "-1", "+1", "1 ", " 1", "1.", "a", "1a", "a1", "\x001", "\u0661", "/9", ":1", "9:",
		"last", "lasts", "lastt", "last Sun", "lastSun ", " lastSun", "lastSuns", "lastlast", "last1", "las", "lasSun", "Sunlast", "last>=1", "lastSun>=1", "l\u00e0stSun",
		"la\u017ftSun", "Sun", "Sun>", "Sun<", "Sun>=", "Sun<=", "Sun=1", "Sun>1", "Sun<1", "Sun==1", "Sun=>1", "Sun=<1", "Sun>=0", "Sun>=00", "Sun>=32",
		"Sun<=0", "Sun<=32", "Sun>=99", "Sun>=001", "Sun>=-1", "Sun>=+1", "Sun>= 1", "Sun >=1", "Sun>=1 ", ">=1", "<=1", "s>=1", "t<=1", "Suns>=1", "Jan>=1", "1>=1",
		"Sun>=1>=1", "Sun<=1<=1", "Sun>=<=1", "Sun<=>=1", "Sun>=1<=1", "Sun<=1>=1", "Sun>=x", "Sun>=1x", "Sun>==1", "Sun>>=1", "Sun<>=1", "Sun>=\u0661", "Sun\x00>=1",
		strings.Repeat("1", 5000), "last" + strings.Repeat("Sun", 2000), "Sun>=" + strings.Repeat("0", 5000) + "1",
	} {
		if got, why := Parse(s); got != (api.Day{}) || why != api.ErrSyntax {
			t.Errorf("Parse(%q) is %v, %d", s, got, why)
		}
	}
}

// Promise 6.1: of all texts of up to two bytes, those of one or two digits alone tell a day.
func TestParseShort(t *testing.T) {
	for a := range 256 {
		for b := range 256 {
			s := string([]byte{byte(a), byte(b)})
			n, err := strconv.ParseUint(s, 10, 8)
			want := api.Day{Kind: api.DayFixed, N: int(n)}
			why := api.OK
			if err != nil || n < 1 || n > 31 {
				want, why = api.Day{}, api.ErrSyntax
			}
			if got, w := Parse(s); got != want || w != why {
				t.Errorf("Parse(%q) is %v, %d", s, got, w)
			}
		}
	}
}

// at is the number of a day by the library's calendar.
func at(y, m, d int) int64 {
	return time.Date(y, time.Month(m), d, 0, 0, 0, 0, time.UTC).Unix() / 86400
}

// sought is the day that d is in a month, sought day by day.
func sought(d api.Day, y, m int) (int64, api.Errno) {
	length := time.Date(y, time.Month(m)+1, 0, 0, 0, 0, 0, time.UTC).Day()
	if d.N > length {
		return 0, api.ErrNone
	}
	begin, step := d.N, 1
	switch d.Kind {
	case api.DayFixed:
		step = 0
	case api.DayLast:
		begin, step = length, -1
	case api.DayUpto:
		step = -1
	}
	day := time.Date(y, time.Month(m), begin, 0, 0, 0, 0, time.UTC)
	for step != 0 && int(day.Weekday()) != d.Dow {
		day = day.AddDate(0, 0, step)
	}
	if day.Year() < api.MinYear || day.Year() > api.MaxYear {
		return 0, api.ErrRange
	}
	return day.Unix() / 86400, api.OK
}

// Promise 6.2 and 6.4: every right day, in every month of years of all kinds, against one that is sought day by day.
func TestIn(t *testing.T) {
	right := rightDays()
	for _, y := range []int{1, 2, 4, 1600, 1601, 1900, 1969, 1970, 1999, 2000, 2001, 2023, 2024, 2026, 2100, 9998, 9999} {
		for m := 1; m <= 12; m++ {
			for d := range right {
				want, why := sought(d, y, m)
				if got, w := In(d, y, m); got != want || w != why {
					t.Errorf("In(%v, %d, %d) is %d, %d, not %d, %d", d, y, m, got, w, want, why)
				}
			}
		}
	}
}

// Promise 6.2: days that the document speaks of, and days of other months.
func TestInNamed(t *testing.T) {
	for _, c := range []struct {
		d    string
		y, m int
		want int64
	}{
		{"1", 1970, 1, 0},
		{"29", 2024, 2, at(2024, 2, 29)},
		{"lastSun", 2026, 3, at(2026, 3, 29)},
		{"lastSun", 2026, 10, at(2026, 10, 25)},
		{"Sun>=8", 2026, 3, at(2026, 3, 8)},
		{"Sun>=29", 2024, 2, at(2024, 3, 3)},
		{"Sun>=31", 2026, 12, at(2027, 1, 3)},
		{"Sat<=1", 2026, 1, at(2025, 12, 27)},
		{"Sun<=25", 2026, 10, at(2026, 10, 25)},
		{"Mon>=1", 1, 1, at(1, 1, 1)},
		{"Mon<=1", 1, 1, at(1, 1, 1)},
		{"Fri<=31", 9999, 12, at(9999, 12, 31)},
		{"Fri>=31", 9999, 12, at(9999, 12, 31)},
	} {
		d, why := Parse(c.d)
		if why != api.OK {
			t.Fatalf("Parse(%q) is %d", c.d, why)
		}
		if got, w := In(d, c.y, c.m); got != c.want || w != api.OK {
			t.Errorf("In(%s, %d, %d) is %d, %d, not %d", c.d, c.y, c.m, got, w, c.want)
		}
	}
}

// Promise 6.2: what is not right, is told, and that which the document names first.
func TestInWrong(t *testing.T) {
	fixed := api.Day{Kind: api.DayFixed, N: 31}
	for _, c := range []struct {
		d    api.Day
		y, m int
		why  api.Errno
	}{
		{api.Day{}, 2026, 1, api.ErrForm},
		{api.Day{}, 0, 13, api.ErrForm},
		{api.Day{Kind: api.DayCount, N: 31}, 2026, 2, api.ErrForm},
		{api.Day{Kind: api.DayFixed, N: 32}, 2026, 2, api.ErrForm},
		{api.Day{Kind: api.DayFixed, N: 1, Dow: 1}, 2026, 2, api.ErrForm},
		{api.Day{Kind: api.DayLast, N: 1}, 2026, 2, api.ErrForm},
		{api.Day{Kind: api.DayFrom, N: 1, Dow: 7}, 2026, 2, api.ErrForm},
		{fixed, 0, 1, api.ErrRange},
		{fixed, 0, 2, api.ErrRange},
		{fixed, 10000, 1, api.ErrRange},
		{fixed, 2026, 0, api.ErrRange},
		{fixed, 2026, 13, api.ErrRange},
		{fixed, -1, -1, api.ErrRange},
		{fixed, math.MinInt, math.MaxInt, api.ErrRange},
		{fixed, math.MaxInt, math.MinInt, api.ErrRange},
		{fixed, 2026, 2, api.ErrNone},
		{fixed, 2026, 4, api.ErrNone},
		{api.Day{Kind: api.DayFixed, N: 29}, 2026, 2, api.ErrNone},
		{api.Day{Kind: api.DayFrom, N: 29}, 2026, 2, api.ErrNone},
		{api.Day{Kind: api.DayUpto, N: 30}, 2024, 2, api.ErrNone},
		{api.Day{Kind: api.DayUpto, N: 1, Dow: 0}, 1, 1, api.ErrRange},
		{api.Day{Kind: api.DayUpto, N: 6, Dow: 0}, 1, 1, api.ErrRange},
		{api.Day{Kind: api.DayFrom, N: 31, Dow: 6}, 9999, 12, api.ErrRange},
		{api.Day{Kind: api.DayFrom, N: 26, Dow: 6}, 9999, 12, api.ErrRange},
	} {
		if got, w := In(c.d, c.y, c.m); got != 0 || w != c.why {
			t.Errorf("In(%v, %d, %d) is %d, %d, not %d", c.d, c.y, c.m, got, w, c.why)
		}
	}
}

// Promise 6.4: DayFrom and DayUpto fall within seven days of N, DayLast within seven of the month's end, on the Dow.
func TestWhereItFalls(t *testing.T) {
	right := rightDays()
	for y := 1995; y <= 2005; y++ {
		for m := 1; m <= 12; m++ {
			for d := range right {
				got, why := In(d, y, m)
				if why != api.OK || d.Kind == api.DayFixed {
					continue
				}
				low, high := at(y, m, d.N), at(y, m, d.N)+6
				switch d.Kind {
				case api.DayLast:
					low, high = at(y, m+1, 1)-7, at(y, m+1, 1)-1
				case api.DayUpto:
					low, high = low-6, low
				}
				// The day 3 is a Sunday.
				if got < low || got > high || int((got+7*1000000-3)%7) != d.Dow {
					t.Errorf("In(%v, %d, %d) is %d", d, y, m, got)
				}
			}
		}
	}
}
