package occur

import (
	"fmt"
	"math"
	"math/rand"
	"slices"
	"strings"
	"testing"
	"time"

	"solstice/api"
	"solstice/moment"
	"solstice/rule"
)

// The limits, as the document tells them.
const (
	minYear  = 1
	maxYear  = 9999
	maxRules = 4096
)

// farYears is years that there are not.
var farYears = []int{0, -1, -1999, 10000, 10001, 1 << 40, math.MinInt, math.MaxInt}

// read is the rules that some texts tell, of the name R.
func read(t *testing.T, texts ...string) []api.Rule {
	t.Helper()
	var l []api.Rule
	for _, text := range texts {
		r, at, why := rule.Parse(append([]string{"R"}, strings.Fields(text)...))
		if why != api.OK {
			t.Fatalf("%q is no rule: %d, %d", text, at, why)
		}
		l = append(l, r)
	}
	return l
}

// utc is the seconds up to a time, by the library.
func utc(t *testing.T, text string) int64 {
	t.Helper()
	at, err := time.Parse(time.DateTime, text)
	if err != nil {
		t.Fatal(err)
	}
	return at.Unix()
}

// show is what o looks like: when it is, by which clock, what is saved ahead of it and from there on, and its letter.
func show(o api.Occ) string {
	return fmt.Sprintf("%s%c %d>%d %s", time.Unix(o.Nominal, 0).UTC().Format(time.DateTime), "wsu"[o.Clock], o.Before, o.Save, o.Letter)
}

// shown is what all of l look like.
func shown(l []api.Occ) []string {
	var out []string
	for _, o := range l {
		out = append(out, strings.TrimRight(show(o), " "))
	}
	return out
}

// mustBe tells if occurrences look otherwise.
func mustBe(t *testing.T, what string, l []api.Occ, want ...string) {
	t.Helper()
	if got := shown(l); !slices.Equal(got, want) {
		t.Errorf("%s is\n%s\nnot\n%s", what, strings.Join(got, "\n"), strings.Join(want, "\n"))
	}
}

// mustTell tells if the occurrences of some years, and of each rule the last one below them, look otherwise.
func mustTell(t *testing.T, l []api.Rule, lo, hi int, want ...string) {
	t.Helper()
	got, why := Of(l, lo, hi)
	if why != api.OK {
		t.Errorf("Of from %d to %d is %d", lo, hi, why)
	}
	mustBe(t, fmt.Sprintf("Of from %d to %d", lo, hi), got, want...)
}

// europe is rules as they are in use.
func europe(t *testing.T) []api.Rule {
	t.Helper()
	return read(t,
		"1977 1980 - Apr Sun>=1 1:00u 1:00 S",
		"1977 only - Sep lastSun 1:00u 0 -",
		"1978 only - Oct 1 1:00u 0 -",
		"1979 1995 - Sep lastSun 1:00u 0 -",
		"1981 max - Mar lastSun 1:00u 1:00 S",
		"1996 max - Oct lastSun 1:00u 0 -",
	)
}

// Promise 15.1: all occurrences of some years, and of each rule the last one ahead of these, in order.
func TestOf(t *testing.T) {
	l := europe(t)
	mustTell(t, l, 1, 1976)
	mustTell(t, l, 1976, 1977, "1977-04-03 01:00:00u 0>3600 S", "1977-09-25 01:00:00u 3600>0")
	mustTell(t, l, 1978, 1978,
		"1977-04-03 01:00:00u 0>3600 S", "1977-09-25 01:00:00u 3600>0",
		"1978-04-02 01:00:00u 0>3600 S", "1978-10-01 01:00:00u 3600>0")
	mustTell(t, l, 1996, 1997,
		"1977-09-25 01:00:00u 3600>0", "1978-10-01 01:00:00u 3600>0", "1980-04-06 01:00:00u 0>3600 S",
		"1995-03-26 01:00:00u 0>3600 S", "1995-09-24 01:00:00u 3600>0",
		"1996-03-31 01:00:00u 0>3600 S", "1996-10-27 01:00:00u 3600>0",
		"1997-03-30 01:00:00u 0>3600 S", "1997-10-26 01:00:00u 3600>0")
	mustTell(t, l, 9999, 9999,
		"1977-09-25 01:00:00u 3600>0", "1978-10-01 01:00:00u 3600>0", "1980-04-06 01:00:00u 0>3600 S", "1995-09-24 01:00:00u 3600>0",
		"9998-03-29 01:00:00u 0>3600 S", "9998-10-25 01:00:00u 3600>0",
		"9999-03-28 01:00:00u 0>3600 S", "9999-10-31 01:00:00u 3600>0")
	mustTell(t, nil, 1, 9999)
	mustTell(t, []api.Rule{}, 2000, 2000)
}

// Promise 15.1: a rule occurs from its first year to its last one, whichever years are asked for.
func TestOfSpan(t *testing.T) {
	l := read(t, "1999 2001 - Jul 1 0 1:00 S")
	first, second, third := "1999-07-01 00:00:00w 0>3600 S", "2000-07-01 00:00:00w 3600>3600 S", "2001-07-01 00:00:00w 3600>3600 S"
	for _, c := range []struct {
		lo, hi int
		want   []string
	}{
		{1, 1998, nil},
		{1998, 1998, nil},
		{1998, 1999, []string{first}},
		{1999, 1999, []string{first}},
		{1999, 2000, []string{first, second}},
		{2000, 2000, []string{first, second}},
		{2001, 2001, []string{second, third}},
		{2001, 2010, []string{second, third}},
		{2002, 2002, []string{third}},
		{2003, 9999, []string{third}},
		{9999, 9999, []string{third}},
		{1, 9999, []string{first, second, third}},
	} {
		mustTell(t, l, c.lo, c.hi, c.want...)
	}
}

// Promise 15.1: occurrences of one time stand by the places of their rules, each behind the one ahead of it.
func TestOneTime(t *testing.T) {
	mustTell(t, read(t, "2000 only - Jul 3 0 0:03 C", "2000 only - Jul 2 24:00s 0:02 B", "2000 only - Jul 4 -24:00u 0:01 A", "2000 only - Jul Mon>=1 0 0:03 C"), 2000, 2000,
		"2000-07-03 00:00:00w 0>180 C", "2000-07-03 00:00:00s 180>120 B", "2000-07-03 00:00:00u 120>60 A", "2000-07-03 00:00:00w 60>180 C")
	// They may be of unlike years: the place counts, not the year.
	mustTell(t, read(t, "2001 only - Jan 1 0 0:01 A", "2000 only - Dec 31 24:00 0:02 B"), 2000, 2001,
		"2001-01-01 00:00:00w 0>60 A", "2001-01-01 00:00:00w 60>120 B")
	mustTell(t, read(t, "2000 only - Dec 31 24:00 0:02 B", "2001 only - Jan 1 0 0:01 A"), 2000, 2001,
		"2001-01-01 00:00:00w 0>120 B", "2001-01-01 00:00:00w 120>60 A")
	// A rule that never occurs has a place, too, but changes nothing.
	mustTell(t, read(t, "2000 only - Feb 30 0 0:09 X", "2000 only - Jul 1 0 0:01 A", "2000 only - Jun 31 0 0:09 Y", "2000 only - Jul 1 0 0:02 B"), 2000, 2000,
		"2000-07-01 00:00:00w 0>60 A", "2000-07-01 00:00:00w 60>120 B")
}

// Promise 15.1: what is of a year may fall into the one ahead, or behind; what is saved ahead of it may be of another year, that is not told.
func TestOtherYear(t *testing.T) {
	l := read(t, "1 max - Dec 31 168:00 0:02 B", "1 max - Jan 1 0 0:01 A")
	mustTell(t, l, 2000, 2000, "1999-01-01 00:00:00w 120>60 A", "2000-01-01 00:00:00w 120>60 A", "2000-01-07 00:00:00w 60>120 B", "2001-01-07 00:00:00w 60>120 B")
	l = read(t, "1 max - Jan 1 -168:00 0:02 B", "1 max - Dec 31 0 0:01 A")
	mustTell(t, l, 2000, 2000, "1998-12-25 00:00:00w 60>120 B", "1999-12-25 00:00:00w 60>120 B", "1999-12-31 00:00:00w 120>60 A", "2000-12-31 00:00:00w 120>60 A")
	// As far as it may be: days by the week as well.
	l = read(t, "1999 2000 - Dec Sat>=31 168:00 0:02 B", "2001 only - Jan 12 0 0:01 A", "2001 only - Jan 14 0 0:03 C")
	mustTell(t, l, 2001, 2001, "2001-01-12 00:00:00w 120>60 A", "2001-01-13 00:00:00w 60>120 B", "2001-01-14 00:00:00w 120>180 C")
	l = read(t, "2000 only - Jan Sun<=1 -168:00 0:02 B", "1999 only - Dec 18 0 0:01 A", "1999 only - Dec 20 0 0:03 C")
	mustTell(t, l, 1999, 1999, "1999-12-18 00:00:00w 0>60 A", "1999-12-20 00:00:00w 120>180 C")
	mustTell(t, l, 2000, 2000, "1999-12-18 00:00:00w 0>60 A", "1999-12-19 00:00:00w 60>120 B", "1999-12-20 00:00:00w 120>180 C")
}

// Promise 15.1: what is saved ahead of an occurrence is what the last one of all saves, however long ago it was.
func TestLongAgo(t *testing.T) {
	// The one ahead is of a lower year than another one that is ahead, too.
	l := read(t, "1998 only - Dec 31 168:00 0:02 B", "1999 only - Jan 1 0 0:01 A", "2000 max - Jul 1 0 0:03 C")
	mustTell(t, l, 2000, 2000, "1999-01-01 00:00:00w 0>60 A", "1999-01-07 00:00:00w 60>120 B", "2000-07-01 00:00:00w 120>180 C")
	mustBe(t, "Year 2000", Year(l, 2000), "2000-07-01 00:00:00w 120>180 C")
	l = read(t, "3 only - Jul 1 0 0:01 A", "9000 only - Jul 1 0 0:02 B", "9998 max - Jul 1 0 0:03 C")
	mustTell(t, l, 9999, 9999, "0003-07-01 00:00:00w 0>60 A", "9000-07-01 00:00:00w 60>120 B", "9998-07-01 00:00:00w 120>180 C", "9999-07-01 00:00:00w 180>180 C")
	mustTell(t, l, 5000, 9000, "0003-07-01 00:00:00w 0>60 A", "9000-07-01 00:00:00w 60>120 B")
	mustBe(t, "Year 9000", Year(l, 9000), "9000-07-01 00:00:00w 60>120 B")
	// Of a rule that has ended the last one is told; what is ahead of that is not told, and of a rule that goes on.
	l = read(t, "1900 1950 - Jul 1 0 0:01 A", "1 max - Jun 1 0 0:02 B", "1 max - Aug 1 0 0:03 C")
	mustTell(t, l, 2000, 2000,
		"1950-07-01 00:00:00w 120>60 A", "1999-06-01 00:00:00w 180>120 B", "1999-08-01 00:00:00w 120>180 C",
		"2000-06-01 00:00:00w 180>120 B", "2000-08-01 00:00:00w 120>180 C")
}

// Promise 15.1: a rule occurs in those years alone in which its day is there.
func TestNoDay(t *testing.T) {
	leap := read(t, "1 max - Feb 29 0 0:01 A")
	mustTell(t, leap, 1904, 1905, "1896-02-29 00:00:00w 60>60 A", "1904-02-29 00:00:00w 60>60 A")
	mustTell(t, leap, 1900, 1903, "1896-02-29 00:00:00w 60>60 A")
	mustTell(t, leap, 1905, 1907, "1904-02-29 00:00:00w 60>60 A")
	mustTell(t, leap, 2000, 2004, "1996-02-29 00:00:00w 60>60 A", "2000-02-29 00:00:00w 60>60 A", "2004-02-29 00:00:00w 60>60 A")
	mustTell(t, leap, 1, 4, "0004-02-29 00:00:00w 0>60 A")
	mustTell(t, read(t, "1897 1903 - Feb 29 0 0:01 A"), 1, 9999)
	mustTell(t, read(t, "1896 1903 - Feb 29 0 0:01 A"), 2000, 9999, "1896-02-29 00:00:00w 0>60 A")
	mustTell(t, read(t, "1997 2001 - Feb Tue>=29 0 0:01 A", "1997 2001 - Feb Mon<=29 0 0:02 B"), 2003, 2003, "2000-02-28 00:00:00w 0>120 B", "2000-02-29 00:00:00w 120>60 A")
	// The day on which it falls need not be of the month.
	mustTell(t, read(t, "2000 only - Feb Mon>=29 0 0:01 A", "2000 only - Mar Tue<=1 0 0:02 B"), 2000, 2000, "2000-02-29 00:00:00w 0>120 B", "2000-03-06 00:00:00w 120>60 A")
	never := read(t, "1 max - Feb 30 0 0:01 A", "1 max - Apr 31 0 0:02 B", "1 max - Feb Sun>=30 0 0:03 C", "1 max - Nov Sun<=31 0 0:04 D")
	mustTell(t, never, 1, 9999)
	mustTell(t, append(never, leap...), 1904, 1904, "1896-02-29 00:00:00w 60>60 A", "1904-02-29 00:00:00w 60>60 A")
}

// Promise 15.1: at both ends of the calendar a day may be of no year; a time may be.
func TestCalendarEnds(t *testing.T) {
	// The year 1 begins on a Monday, and the year 9999 ends on a Friday.
	l := read(t, "1 2 - Jan Mon<=1 0 0:01 A", "1 2 - Jan Sun<=1 0 0:02 B")
	mustTell(t, l, 1, 1, "0001-01-01 00:00:00w 0>60 A")
	mustTell(t, l, 2, 2, "0001-01-01 00:00:00w 0>60 A", "0001-12-30 00:00:00w 60>120 B", "0001-12-31 00:00:00w 120>60 A")
	l = read(t, "9998 9999 - Dec Fri>=31 0 0:01 A", "9998 9999 - Dec Sat>=31 0 0:02 B")
	mustTell(t, l, 9999, 9999, "9999-01-01 00:00:00w 0>60 A", "9999-01-02 00:00:00w 60>120 B", "9999-12-31 00:00:00w 120>60 A")
	mustTell(t, read(t, "9999 only - Dec Sat>=31 0 0:02 B", "1 only - Jan Sun<=1 0 0:02 B"), 1, 9999)
	l = read(t, "1 2 - Jan 1 -168:00 0:01 A")
	mustTell(t, l, 1, 1, "0000-12-25 00:00:00w 0>60 A")
	mustTell(t, l, 3, 3, "0001-12-25 00:00:00w 60>60 A")
	l = read(t, "9998 9999 - Dec 31 168:00 0:01 A")
	mustTell(t, l, 9999, 9999, "9999-01-07 00:00:00w 0>60 A", "10000-01-07 00:00:00w 60>60 A")
}

// wrong is rules that are not right, each for one reason.
func wrong(t *testing.T) []api.Rule {
	t.Helper()
	var l []api.Rule
	for _, change := range []func(r *api.Rule){
		func(r *api.Rule) { *r = api.Rule{} },
		func(r *api.Rule) { r.Name = "" },
		func(r *api.Rule) { r.Name = "1R" },
		func(r *api.Rule) { r.From = 0 },
		func(r *api.Rule) { r.To = maxYear + 1 },
		func(r *api.Rule) { r.From, r.To = 2000, 1999 },
		func(r *api.Rule) { r.Month = 0 },
		func(r *api.Rule) { r.Month = 13 },
		func(r *api.Rule) { r.On.N = 0 },
		func(r *api.Rule) { r.On.N = 32 },
		func(r *api.Rule) { r.On.Kind = api.DayCount },
		func(r *api.Rule) { r.At.Sec = 604801 },
		func(r *api.Rule) { r.At.Clock = api.ClockCount },
		func(r *api.Rule) { r.Save = -604801 },
		func(r *api.Rule) { r.Letter = "-" },
		func(r *api.Rule) { r.Letter = "a b" },
	} {
		r := read(t, "1990 2010 - Jul 1 0 0:01 A")[0]
		change(&r)
		l = append(l, r)
	}
	return l
}

// Promises 15.1 and 15.2: of rules of which one is not right, none is told, whatever is asked.
func TestWrongRules(t *testing.T) {
	good := read(t, "1990 2010 - Jul 1 0 0:01 A", "1990 2010 - Aug 1 0 0:02 B")
	for _, r := range wrong(t) {
		for at := range 3 {
			l := slices.Insert(slices.Clone(good), at, r)
			for _, years := range [][2]int{{2000, 2000}, {1, 9999}, {3000, 3000}, {2001, 2000}, {0, 2000}, {2000, 10000}} {
				if got, why := Of(l, years[0], years[1]); len(got) != 0 || why != api.ErrForm {
					t.Errorf("Of %v, %v is %v, %d", l, years, got, why)
				}
			}
			for _, nominal := range []int64{0, 1 << 30, math.MinInt64, math.MaxInt64} {
				if got, is := Last(l, nominal); got != (api.Occ{}) || is {
					t.Errorf("Last of %v, %d is %v, %t", l, nominal, got, is)
				}
			}
			for _, y := range []int{1, 2000, 9999, 0} {
				if got := Year(l, y); len(got) != 0 {
					t.Errorf("Year of %v, %d is %v", l, y, got)
				}
			}
		}
	}
}

// Promise 15.1: years that there are not, or that are not in order.
func TestWrongYears(t *testing.T) {
	for _, l := range [][]api.Rule{nil, europe(t)} {
		for _, far := range farYears {
			for _, years := range [][2]int{{far, 2000}, {2000, far}, {far, far}, {minYear, far}, {far, maxYear}} {
				if got, why := Of(l, years[0], years[1]); len(got) != 0 || why != api.ErrRange {
					t.Errorf("Of %v is %v, %d", years, got, why)
				}
			}
			if got := Year(l, far); len(got) != 0 {
				t.Errorf("Year %d is %v", far, got)
			}
		}
		for _, years := range [][2]int{{2001, 2000}, {9999, 1}, {9999, 9998}, {2, 1}} {
			if got, why := Of(l, years[0], years[1]); len(got) != 0 || why != api.ErrRange {
				t.Errorf("Of %v is %v, %d", years, got, why)
			}
		}
	}
}

// Promise 15.2: the last occurrence that is ahead of a time.
func TestLast(t *testing.T) {
	l := append(europe(t), read(t, "1979 only - Sep 30 1:00s 0:30 X", "2050 max - Feb 30 0 2:00 Y")...)
	for _, c := range []struct{ nominal, want string }{
		{"0001-01-01 00:00:00", ""},
		{"1977-04-03 01:00:00", ""},
		{"1977-04-03 01:00:01", "1977-04-03 01:00:00u 0>3600 S"},
		{"1977-09-25 01:00:00", "1977-04-03 01:00:00u 0>3600 S"},
		{"1977-09-25 01:00:01", "1977-09-25 01:00:00u 3600>0"},
		{"1978-01-01 00:00:00", "1977-09-25 01:00:00u 3600>0"},
		{"1978-04-02 01:00:00", "1977-09-25 01:00:00u 3600>0"},
		{"1979-09-30 01:00:00", "1979-04-01 01:00:00u 0>3600 S"},
		{"1979-09-30 01:00:01", "1979-09-30 01:00:00s 0>1800 X"},
		{"1980-04-06 01:00:01", "1980-04-06 01:00:00u 1800>3600 S"},
		{"1996-10-27 01:00:00", "1996-03-31 01:00:00u 0>3600 S"},
		{"2000-01-01 00:00:00", "1999-10-31 01:00:00u 3600>0"},
		{"9999-12-31 23:59:59", "9999-10-31 01:00:00u 3600>0"},
	} {
		got, is := Last(l, utc(t, c.nominal))
		if is != (c.want != "") || is && strings.TrimRight(show(got), " ") != c.want || !is && got != (api.Occ{}) {
			t.Errorf("the last one ahead of %s is %s, %t, not %s", c.nominal, show(got), is, c.want)
		}
	}
	for nominal, want := range map[int64]bool{math.MinInt64: false, math.MinInt64 + 1: false, -1 << 40: false, 1 << 40: true, math.MaxInt64 - 1: true, math.MaxInt64: true} {
		got, is := Last(l, nominal)
		if is != want || is && show(got) != "9999-10-31 01:00:00u 3600>0 " || !is && got != (api.Occ{}) {
			t.Errorf("the last one ahead of %d is %s, %t", nominal, show(got), is)
		}
		if got, is := Last(nil, nominal); got != (api.Occ{}) || is {
			t.Errorf("of nothing the last one ahead of %d is %s, %t", nominal, show(got), is)
		}
	}
}

// Promise 15.2: of those of one time that are ahead, the one whose rule stands last; of those of the time itself none.
func TestLastOneTime(t *testing.T) {
	l := read(t, "2000 only - Jul 1 0 0:01 A", "2000 only - Jul 1 0u 0:02 B", "2000 only - Jul 1 0s 0:03 C", "1990 only - Jul 1 0s 0:04 D")
	at := utc(t, "2000-07-01 00:00:00")
	for nominal, want := range map[int64]string{at: "1990-07-01 00:00:00s 0>240 D", at + 1: "2000-07-01 00:00:00s 120>180 C"} {
		if got, is := Last(l, nominal); !is || show(got) != want {
			t.Errorf("the last one ahead of %d is %s, %t, not %s", nominal, show(got), is, want)
		}
	}
}

// Promise 15.2: what is ahead of a time may be of the next year, or of one long ago, or of no day of the calendar.
func TestLastOtherYear(t *testing.T) {
	for _, c := range []struct{ text, nominal, want string }{
		{"2001 max - Jan Sun<=1 -168:00 0:01 A", "2000-12-31 00:00:00", "2000-12-24 00:00:00w 0>60 A"},
		{"2000 max - Jan Sun<=1 -168:00 0:01 A", "1999-12-19 00:00:01", "1999-12-19 00:00:00w 0>60 A"},
		{"1 2000 - Dec Sat>=31 168:00 0:01 A", "2001-01-13 00:00:00", "2000-01-08 00:00:00w 60>60 A"},
		{"1 2000 - Dec Sat>=31 168:00 0:01 A", "2001-01-13 00:00:01", "2001-01-13 00:00:00w 60>60 A"},
		{"1 max - Feb 29 0 0:01 A", "1904-02-29 00:00:00", "1896-02-29 00:00:00w 60>60 A"},
		{"1 max - Feb 29 0 0:01 A", "1903-12-31 00:00:00", "1896-02-29 00:00:00w 60>60 A"},
		{"1 only - Jan 2 0 0:01 A", "9999-12-31 00:00:00", "0001-01-02 00:00:00w 0>60 A"},
		{"1 max - Jan 1 -168:00 0:01 A", "0001-01-01 00:00:00", "0000-12-25 00:00:00w 0>60 A"},
		{"1 max - Jan 1 -168:00 0:01 A", "0000-12-25 00:00:01", "0000-12-25 00:00:00w 0>60 A"},
		{"1 max - Jan 1 -168:00 0:01 A", "0001-12-25 00:00:01", "0001-12-25 00:00:00w 60>60 A"},
	} {
		if got, is := Last(read(t, c.text), utc(t, c.nominal)); !is || show(got) != c.want {
			t.Errorf("of %s the last one ahead of %s is %s, %t, not %s", c.text, c.nominal, show(got), is, c.want)
		}
	}
	// The year 10000 is beyond what the library reads.
	end := utc(t, "9999-12-31 00:00:00") + 86400
	l := read(t, "1 max - Dec 31 168:00 0:01 A", "9999 only - Dec 31 0 0:02 B")
	for nominal, want := range map[int64]string{
		end: "9999-12-31 00:00:00w 60>120 B", end + 6*86400: "9999-12-31 00:00:00w 60>120 B",
		end + 6*86400 + 1: "10000-01-07 00:00:00w 120>60 A", math.MaxInt64: "10000-01-07 00:00:00w 120>60 A",
	} {
		if got, is := Last(l, nominal); !is || show(got) != want {
			t.Errorf("the last one ahead of %d is %s, %t, not %s", nominal, show(got), is, want)
		}
	}
	if got, is := Last(read(t, "1 max - Jan 1 -168:00 0:01 A"), utc(t, "0000-12-25 00:00:00")); is || got != (api.Occ{}) {
		t.Errorf("the last one is %s, %t", show(got), is)
	}
}

// Promise 15.2: the occurrences of a year alone, in order, wherever they fall.
func TestYear(t *testing.T) {
	l := europe(t)
	for y, want := range map[int][]string{
		1976: nil, 1: nil,
		1977: {"1977-04-03 01:00:00u 0>3600 S", "1977-09-25 01:00:00u 3600>0"},
		1996: {"1996-03-31 01:00:00u 0>3600 S", "1996-10-27 01:00:00u 3600>0"},
		9999: {"9999-03-28 01:00:00u 0>3600 S", "9999-10-31 01:00:00u 3600>0"},
	} {
		mustBe(t, fmt.Sprint("Year ", y), Year(l, y), want...)
	}
	l = read(t, "1 max - Dec 31 168:00 0:02 B", "1 max - Jan 1 -168:00 0:01 A", "1 max - Feb 29 0 0:03 C", "1 max - Feb 30 0 0:04 D")
	mustBe(t, "Year 1999", Year(l, 1999), "1998-12-25 00:00:00w 120>60 A", "2000-01-07 00:00:00w 60>120 B")
	mustBe(t, "Year 2000", Year(l, 2000), "1999-12-25 00:00:00w 120>60 A", "2000-02-29 00:00:00w 120>180 C", "2001-01-07 00:00:00w 60>120 B")
	mustBe(t, "Year 1", Year(l, 1), "0000-12-25 00:00:00w 0>60 A", "0002-01-07 00:00:00w 60>120 B")
	mustBe(t, "Year 9999", Year(l, 9999), "9998-12-25 00:00:00w 120>60 A", "10000-01-07 00:00:00w 120>120 B")
	mustBe(t, "Year 2000 of nothing", Year(nil, 2000))
}

// told is an occurrence, and of which year and which rule it is.
type told struct {
	api.Occ
	year, place int
}

// model is all occurrences of rules, in order, one year behind the other, as the document says it.
func model(l []api.Rule) []told {
	var all []told
	for y := minYear; y <= maxYear; y++ {
		for i, r := range l {
			if y < r.From || y > r.To {
				continue
			}
			if n, why := moment.Nominal(y, r.Month, r.On, r.At); why == api.OK {
				all = append(all, told{api.Occ{Nominal: n, Clock: r.At.Clock, Save: r.Save, Letter: r.Letter}, y, i})
			}
		}
	}
	slices.SortStableFunc(all, func(a, b told) int {
		switch {
		case a.Nominal != b.Nominal:
			return int(max(-1, min(1, a.Nominal-b.Nominal)))
		default:
			return a.place - b.place
		}
	})
	for i := 1; i < len(all); i++ {
		all[i].Before = all[i-1].Save
	}
	return all
}

// those is the occurrences of l that are wanted.
func those(l []told, wanted func(o told) bool) []api.Occ {
	var out []api.Occ
	for _, o := range l {
		if wanted(o) {
			out = append(out, o.Occ)
		}
	}
	return out
}

// modelOf is the occurrences of the years from lo to hi, and of each rule the last one of a year below lo.
func modelOf(all []told, lo, hi int) []api.Occ {
	last := map[int]int{}
	for _, o := range all {
		if o.year < lo {
			last[o.place] = max(last[o.place], o.year)
		}
	}
	return those(all, func(o told) bool { return o.year >= lo && o.year <= hi || o.year == last[o.place] })
}

// some is a few rules of years near to one, many of which occur near where years begin, or where leap days are.
func some(r *rand.Rand, near int) []api.Rule {
	var l []api.Rule
	year := func(far int) int { return max(minYear, min(maxYear, near+r.Intn(2*far+1)-far)) }
	for range r.Intn(7) {
		one := api.Rule{Name: "R", From: year(12), Month: []int{12, 1, 12, 1, 2, 2, 3, 6, 11}[r.Intn(9)], Save: int64(r.Intn(9)) * 60, Letter: string(rune('A' + len(l)))}
		one.To = max(one.From, year(12))
		if r.Intn(4) == 0 {
			one.To = one.From
		}
		one.On = api.Day{Kind: api.DayKind(r.Intn(4)), N: []int{1, 2, 7, 28, 29, 30, 31}[r.Intn(7)], Dow: r.Intn(7)}
		switch one.On.Kind {
		case api.DayFixed:
			one.On.Dow = 0
		case api.DayLast:
			one.On.N = 0
		}
		one.At = api.Moment{Sec: int64(r.Intn(15)-7) * 86400, Clock: api.ClockKind(r.Intn(3))}
		l = append(l, one)
		if r.Intn(4) == 0 {
			l = append(l, one)
		}
	}
	return l
}

// Promises 15.1 and 15.2: against a second way of finding occurrences.
func TestModel(t *testing.T) {
	r := rand.New(rand.NewSource(15))
	for round := range 2500 {
		near := []int{1, 3, 9, 100, 1904, 1970, 2000, 9990, 9997, 9999}[round%10]
		l := some(r, near)
		all := model(l)
		for range 12 {
			lo := max(minYear, min(maxYear, near+r.Intn(41)-20))
			hi := min(maxYear, lo+r.Intn(1+r.Intn(20)))
			if got, why := Of(l, lo, hi); why != api.OK || !slices.Equal(got, modelOf(all, lo, hi)) {
				t.Fatalf("Of %v from %d to %d is\n%v\nnot\n%v", l, lo, hi, shown(got), shown(modelOf(all, lo, hi)))
			}
			if got, want := Year(l, lo), those(all, func(o told) bool { return o.year == lo }); !slices.Equal(got, want) {
				t.Fatalf("Year %d of %v is\n%v\nnot\n%v", lo, l, shown(got), shown(want))
			}
		}
		for range 12 {
			nominal := int64(near-1970)*31556952 + r.Int63n(30*31556952) - 15*31556952
			if len(all) > 0 && r.Intn(2) == 0 {
				nominal = all[r.Intn(len(all))].Nominal + r.Int63n(3) - 1
			}
			var want api.Occ
			ahead := those(all, func(o told) bool { return o.Nominal < nominal })
			if len(ahead) > 0 {
				want = ahead[len(ahead)-1]
			}
			if got, is := Last(l, nominal); got != want || is != (len(ahead) > 0) {
				t.Fatalf("the last one of %v ahead of %d is %v, %t, not %v", l, nominal, got, is, want)
			}
		}
	}
}

// Promise 15.3: what is told is one behind the other, and of more years there is all that there is of fewer.
func TestOneBehindTheOther(t *testing.T) {
	r := rand.New(rand.NewSource(153))
	lists := [][]api.Rule{europe(t), append(europe(t), read(t, "1 max - Feb 29 0 0:20 L", "1900 1990 - Dec 31 168:00 0:40 D")...)}
	for range 300 {
		lists = append(lists, some(r, 2000))
	}
	for _, l := range lists {
		all, why := Of(l, minYear, maxYear)
		if why != api.OK {
			t.Fatalf("of %v it is %d", l, why)
		}
		before := int64(0)
		for i, o := range all {
			if o.Before != before || i > 0 && o.Nominal < all[i-1].Nominal {
				t.Fatalf("of %v %s is behind %d", l, show(o), before)
			}
			before = o.Save
		}
		for range 20 {
			checkAhead(t, l, all, r)
			checkMore(t, l, r)
		}
	}
}

// checkAhead tells if what is ahead of an occurrence is not the last one of all that are.
func checkAhead(t *testing.T, l []api.Rule, all []api.Occ, r *rand.Rand) {
	t.Helper()
	if len(all) == 0 {
		return
	}
	o := all[r.Intn(len(all))]
	first := slices.IndexFunc(all, func(p api.Occ) bool { return p.Nominal == o.Nominal })
	got, is := Last(l, o.Nominal)
	if is != (first > 0) || is && (got != all[first-1] || got.Nominal >= o.Nominal) {
		t.Fatalf("of %v ahead of %s is %s, %t", l, show(o), show(got), is)
	}
}

// checkMore tells if of more years there is not all that there is of fewer.
func checkMore(t *testing.T, l []api.Rule, r *rand.Rand) {
	t.Helper()
	lo := 1985 + r.Intn(30)
	hi := lo + r.Intn(10)
	few, _ := Of(l, lo, hi)
	many, why := Of(l, lo-r.Intn(20), hi+r.Intn(20))
	if why != api.OK {
		t.Fatalf("of %v it is %d", l, why)
	}
	times := map[api.Occ]int{}
	for _, o := range many {
		times[o]++
	}
	for _, o := range few {
		if times[o]--; times[o] < 0 {
			t.Fatalf("of %v there is %s of fewer years alone", l, show(o))
		}
	}
}

// Promises 15.1 and 15.2: what is handed in is not changed, and what is answered is not shared.
func TestKeepsRules(t *testing.T) {
	l, want := europe(t), europe(t)
	of, _ := Of(l, 1996, 1997)
	year := Year(l, 1996)
	againOf, againYear := slices.Clone(of), slices.Clone(year)
	clear(of)
	clear(year)
	_, _ = append(of, api.Occ{}), append(year, api.Occ{})
	Last(l, 0)
	if !slices.Equal(l, want) {
		t.Errorf("they are %v", l)
	}
	if got, _ := Of(l, 1996, 1997); !slices.Equal(got, againOf) || len(got) != 9 {
		t.Errorf("Of is %v", shown(got))
	}
	if got := Year(l, 1996); !slices.Equal(got, againYear) || len(got) != 2 {
		t.Errorf("Year is %v", shown(got))
	}
}

// full is as many rules as a source may have, each one told by its place.
func full(one func(i int) api.Rule) []api.Rule {
	var l []api.Rule
	for i := range maxRules {
		r := one(i)
		r.Name, r.Save = "R", int64(i)
		l = append(l, r)
	}
	return l
}

// Promises 15.1 and 15.2: as many rules as there may be, of any kind.
func TestFull(t *testing.T) {
	at := func(y, i int) int64 { return time.Date(y, 7, 1, 0, 0, i, 0, time.UTC).Unix() }
	// All of them each year, one second behind the other.
	l := full(func(i int) api.Rule {
		return api.Rule{From: 1, To: maxYear, Month: 7, On: api.Day{N: 1}, At: api.Moment{Sec: int64(i)}}
	})
	of, why := Of(l, 2000, 2001)
	if len(of) != 3*maxRules || why != api.OK {
		t.Fatalf("there are %d, %d", len(of), why)
	}
	for i, o := range of {
		place := i % maxRules
		want := api.Occ{Nominal: at(1999+i/maxRules, place), Save: int64(place), Before: int64((place + maxRules - 1) % maxRules)}
		if o != want {
			t.Fatalf("the one at %d is %v, not %v", i, o, want)
		}
	}
	if got := Year(l, 2000); !slices.Equal(got, of[maxRules:2*maxRules]) {
		t.Errorf("of the year 2000 there are %d", len(got))
	}
	if got, is := Last(l, at(2000, 0)); got != of[maxRules-1] || !is {
		t.Errorf("the last one is %v, %t", got, is)
	}
	// Each one in a year of its own, the last ones ahead.
	l = full(func(i int) api.Rule {
		return api.Rule{From: maxRules - i, To: maxRules - i, Month: 7, On: api.Day{N: 1}}
	})
	of, why = Of(l, 5000, maxYear)
	if len(of) != maxRules || why != api.OK {
		t.Fatalf("there are %d, %d", len(of), why)
	}
	for i, o := range of {
		want := api.Occ{Nominal: at(i+1, 0), Save: int64(maxRules - 1 - i), Before: int64(maxRules - i)}
		if i == 0 {
			want.Before = 0
		}
		if o != want {
			t.Fatalf("the one at %d is %v, not %v", i, o, want)
		}
	}
}

// Promises 15.1 and 15.2: as many rules as there may be, that never occur, or not in most years.
func TestFullOfNever(t *testing.T) {
	never := full(func(int) api.Rule { return api.Rule{From: 1, To: maxYear, Month: 2, On: api.Day{N: 30}} })
	leap := full(func(int) api.Rule { return api.Rule{From: 1, To: maxYear, Month: 2, On: api.Day{N: 29}} })
	for range 100 {
		of, why := Of(never, 9990, 9999)
		last, is := Last(never, math.MaxInt64)
		if len(of) != 0 || why != api.OK || last != (api.Occ{}) || is || len(Year(never, 9999)) != 0 {
			t.Fatalf("there are %d, %d, %v, %t", len(of), why, last, is)
		}
	}
	of, why := Of(leap, 1904, 1904)
	if len(of) != 2*maxRules || why != api.OK {
		t.Fatalf("there are %d, %d", len(of), why)
	}
	for i, o := range of {
		want := api.Occ{Nominal: utc(t, "1896-02-29 00:00:00"), Save: int64(i % maxRules), Before: int64((i + maxRules - 1) % maxRules)}
		if i >= maxRules {
			want.Nominal = utc(t, "1904-02-29 00:00:00")
		}
		if o != want {
			t.Fatalf("the one at %d is %v, not %v", i, o, want)
		}
	}
}
