package line

import (
	"fmt"
	"math"
	"math/rand"
	"slices"
	"strings"
	"testing"
	"time"

	"solstice/api"
	"solstice/edge"
	"solstice/ideal"
	"solstice/moment"
	"solstice/occur"
	"solstice/source"
	"solstice/valid"
)

// The limits, as the document tells them.
const (
	minYear  = 1
	maxYear  = 9999
	maxYears = 400
	maxRules = 4096
	maxEras  = 64
)

// farYears is years that there are not.
var farYears = []int{0, -1, -1999, 10001, 1 << 40, math.MinInt, math.MaxInt}

// europe is a source with zones whose eras are of all kinds.
const europe = `Rule C-Eur 1944 1945 - Apr Mon>=1 2:00s 1:00 S
Rule C-Eur 1944 only - Oct 2 2:00s 0 -
Rule SovietZone 1945 only - May 24 2:00 2:00 M
Rule SovietZone 1945 only - Sep 24 3:00 1:00 S
Rule SovietZone 1945 only - Nov 18 2:00s 0 -
Rule Germany 1946 only - Apr 14 2:00s 1:00 S
Rule Germany 1946 only - Oct 7 2:00s 0 -
Rule Germany 1947 1949 - Oct Sun>=1 2:00s 0 -
Rule Germany 1947 only - Apr 6 3:00s 1:00 S
Rule Germany 1947 only - May 11 2:00s 2:00 M
Rule Germany 1947 only - Jun 29 3:00 1:00 S
Rule EU 1977 1980 - Apr Sun>=1 1:00u 1:00 S
Rule EU 1977 only - Sep lastSun 1:00u 0 -
Rule EU 1978 only - Oct 1 1:00u 0 -
Rule EU 1979 1995 - Sep lastSun 1:00u 0 -
Rule EU 1981 max - Mar lastSun 1:00u 1:00 S
Rule EU 1996 max - Oct lastSun 1:00u 0 -
Zone UTC 0 - UTC
Zone Europe/Berlin 0:53:28 - LMT 1893 Apr
	1:00 C-Eur CE%sT 1945 May 24 2:00
	1:00 SovietZone CE%sT 1946
	1:00 Germany CE%sT 1980
	1:00 EU CE%sT
Zone Africa/Lome 0:04:52 - LMT 1893
	0 0:20 GM%sT 1940
	0 -0:30 G/S 1950
	0 0 G/S
Link Europe/Berlin Arctic/Longyearbyen
`

// read is the source that a text tells.
func read(t *testing.T, text string) api.Source {
	t.Helper()
	s, f := source.Parse(text)
	if f != (api.Fault{}) {
		t.Fatalf("%q is %v", text, f)
	}
	return s
}

// utc is the seconds up to a time, by the library.
func utc(t *testing.T, text string) int64 {
	t.Helper()
	at, err := time.Parse(time.DateTime, text)
	if err != nil {
		t.Fatal(err)
	}
	return at.Unix()
}

// shown is what spans look like: from when on, the offset, and a + for Dst.
func shown(l []api.Span) []string {
	var out []string
	for _, span := range l {
		dst := ""
		if span.Dst {
			dst = "+"
		}
		out = append(out, fmt.Sprintf("%s %d%s", time.Unix(span.From, 0).UTC().Format(time.DateTime), span.Off, dst))
	}
	return out
}

// mustBe tells if the line of a zone in some years is another one.
func mustBe(t *testing.T, s api.Source, z, lo, hi int, want ...string) {
	t.Helper()
	l, why := Of(s, z, lo, hi)
	if got := shown(l); why != api.OK || !slices.Equal(got, want) {
		t.Errorf("of %s from %d to %d it is, %d,\n%s\nnot\n%s", s.Zones[z].Name, lo, hi, why, strings.Join(got, "\n"), strings.Join(want, "\n"))
	}
}

// Promise 18.1: all that happens to clocks, over eras of all kinds.
func TestOf(t *testing.T) {
	s := read(t, europe)
	mustBe(t, s, 0, 2, 2, "0002-01-01 00:00:00 0")
	mustBe(t, s, 0, 1800, 2199, "1800-01-01 00:00:00 0")
	mustBe(t, s, 0, 9998, 9998, "9998-01-01 00:00:00 0")
	mustBe(t, s, 1, 1850, 1900, "1850-01-01 00:00:00 3208", "1893-03-31 23:06:32 3600")
	mustBe(t, s, 1, 1940, 1946,
		"1940-01-01 00:00:00 3600",
		"1944-04-03 01:00:00 7200+", "1944-10-02 01:00:00 3600", "1945-04-02 01:00:00 7200+",
		// The next era's first rule occurs an hour after it begins, by its standard offset.
		"1945-05-24 00:00:00 3600", "1945-05-24 01:00:00 10800+",
		"1945-09-24 00:00:00 7200+", "1945-11-18 01:00:00 3600",
		"1946-04-14 01:00:00 7200+", "1946-10-07 01:00:00 3600")
	mustBe(t, s, 1, 1947, 1979,
		"1947-01-01 00:00:00 3600", "1947-04-06 02:00:00 7200+", "1947-05-11 01:00:00 10800+", "1947-06-29 00:00:00 7200+", "1947-10-05 01:00:00 3600")
	mustBe(t, s, 1, 1979, 1981,
		"1979-01-01 00:00:00 3600", "1980-04-06 01:00:00 7200+", "1980-09-28 01:00:00 3600", "1981-03-29 01:00:00 7200+", "1981-09-27 01:00:00 3600")
	mustBe(t, s, 1, 2026, 2026, "2026-01-01 00:00:00 3600", "2026-03-29 01:00:00 7200+", "2026-10-25 01:00:00 3600")
	mustBe(t, s, 1, 9998, 9998, "9998-01-01 00:00:00 3600", "9998-03-29 01:00:00 7200+", "9998-10-25 01:00:00 3600")
	mustBe(t, s, 2, 1892, 1952,
		"1892-01-01 00:00:00 292", "1892-12-31 23:55:08 1200+", "1939-12-31 23:40:00 -1800+", "1950-01-01 00:30:00 0")
	// At the south clocks are set on when a year ends.
	mustBe(t, read(t, "Rule R 1 max - Oct 1 0s 1:00 -\nRule R 1 max - Mar 1 0s 0 -\nZone A -3:00 R %z"), 0, 2000, 2001,
		"2000-01-01 00:00:00 -7200+", "2000-03-01 03:00:00 -10800", "2000-10-01 03:00:00 -7200+", "2001-03-01 03:00:00 -10800", "2001-10-01 03:00:00 -7200+")
}

// Promise 18.1: a span begins where Off or Dst change, and nowhere else.
func TestOfChanges(t *testing.T) {
	for _, c := range []struct {
		text string
		want []string
	}{
		// Off and Dst stay, and the short name changes.
		{"Zone A 1:00 - A 2000 Jul\n1:00 - B", []string{"2000-01-01 00:00:00 3600"}},
		{"Zone A 1:00 - A 2000 Jul\n1:00 0 B 2000 Aug\n1:00 R C%s\nRule R 2000 max - Sep 1 0 0 X", []string{"2000-01-01 00:00:00 3600"}},
		{"Zone A 1:00 1:00 A 2000 Jul\n0:30 1:30 B", []string{"2000-01-01 00:00:00 7200+"}},
		{"Rule R 2000 only - May 1 0 1:00 A\nRule R 2000 only - Jul 1 0 1:00 B\nZone A 0 R %s", []string{"2000-01-01 00:00:00 0", "2000-05-01 00:00:00 3600+"}},
		{"Rule R 1999 only - May 1 0 1:00 A\nZone A 1:00 R %s 2000 Mar\n1:00 1:00 B", []string{"2000-01-01 00:00:00 7200+"}},
		// Off stays, and Dst changes; Dst stays, and Off changes.
		{"Zone A 1:00 1:00 A 2000 Jul 1 0u\n2:00 - B", []string{"2000-01-01 00:00:00 7200+", "2000-07-01 00:00:00 7200"}},
		{"Zone A 0 -1:00 A 2000 Jul 1 0u\n-1:00 - B", []string{"2000-01-01 00:00:00 -3600+", "2000-07-01 00:00:00 -3600"}},
		{"Zone A 1:00 - A 2000 Jul 1 0u\n2:00 - B", []string{"2000-01-01 00:00:00 3600", "2000-07-01 00:00:00 7200"}},
		{"Zone A 1:00 1:00 A 2000 Jul 1 0u\n1:00 2:00 B", []string{"2000-01-01 00:00:00 7200+", "2000-07-01 00:00:00 10800+"}},
		{"Rule R 2000 only - May 1 0u 1:00 A\nRule R 2000 only - Jul 1 0u -1:00 B\nZone A 0 R %s", []string{"2000-01-01 00:00:00 0", "2000-05-01 00:00:00 3600+", "2000-07-01 00:00:00 -3600+"}},
		// To and fro at one time is nothing, a second is a span.
		{"Rule R 2000 only - May 1 0u 1:00 A\nRule R 2000 only - May 1 0u 0 B\nZone A 0 R %s", []string{"2000-01-01 00:00:00 0"}},
		{"Rule R 2000 only - May 1 0u 1:00 A\nRule R 2000 only - May 1 0:00:01u 0 B\nZone A 0 R %s", []string{"2000-01-01 00:00:00 0", "2000-05-01 00:00:00 3600+", "2000-05-01 00:00:01 0"}},
		{"Zone A 0 - A 2000 Jul 1 0u\n5:00 - B 2000 Jul 1 0:00:01u\n0 - C", []string{"2000-01-01 00:00:00 0", "2000-07-01 00:00:00 18000", "2000-07-01 00:00:01 0"}},
		// A rule that never occurs changes nothing, nor does one of another name.
		{"Rule R 1 max - Feb 30 0u 1:00 A\nRule Q 2000 only - May 1 0u 1:00 A\nZone A 0 R %s", []string{"2000-01-01 00:00:00 0"}},
	} {
		mustBe(t, read(t, c.text), 0, 2000, 2001, c.want...)
	}
}

// Promise 18.1: what happens at the first second, at the last one, and beside them.
func TestOfEnds(t *testing.T) {
	for _, c := range []struct {
		at   string // when an hour is saved, in a zone of no offset, and nothing ahead
		want []string
	}{
		{"1999 only - Dec 31 23:59:59u", []string{"2000-01-01 00:00:00 3600+"}},
		{"2000 only - Jan 1 0:00:00u", []string{"2000-01-01 00:00:00 3600+"}},
		{"1999 only - Dec 31 24:00u", []string{"2000-01-01 00:00:00 3600+"}},
		{"2000 only - Jan 1 0:00:01u", []string{"2000-01-01 00:00:00 0", "2000-01-01 00:00:01 3600+"}},
		{"1999 only - Dec 31 24:00:01u", []string{"2000-01-01 00:00:00 0", "2000-01-01 00:00:01 3600+"}},
		{"2001 only - Dec 31 23:59:59u", []string{"2000-01-01 00:00:00 0", "2001-12-31 23:59:59 3600+"}},
		{"2002 only - Jan 1 -0:00:01u", []string{"2000-01-01 00:00:00 0", "2001-12-31 23:59:59 3600+"}},
		{"2001 only - Dec 31 24:00u", []string{"2000-01-01 00:00:00 0"}},
		{"2002 only - Jan 1 0u", []string{"2000-01-01 00:00:00 0"}},
		{"1 only - Jan 1 0u", []string{"2000-01-01 00:00:00 3600+"}},
		{"9999 only - Jan 1 0u", []string{"2000-01-01 00:00:00 0"}},
		{"2003 max - Jan 1 0u", []string{"2000-01-01 00:00:00 0"}},
	} {
		mustBe(t, read(t, "Rule R "+c.at+" 1:00 -\nZone A 0 R %z"), 0, 2000, 2001, c.want...)
	}
	for until, want := range map[string][]string{
		"1999 Dec 31 23:59:59u": {"2000-01-01 00:00:00 60"},
		"2000 Jan 1 0u":         {"2000-01-01 00:00:00 60"},
		"2000 Jan 1 0:00:01u":   {"2000-01-01 00:00:00 0", "2000-01-01 00:00:01 60"},
		"2001 Dec 31 23:59:59u": {"2000-01-01 00:00:00 0", "2001-12-31 23:59:59 60"},
		"2002 Jan 1 0u":         {"2000-01-01 00:00:00 0"},
		"1":                     {"2000-01-01 00:00:00 60"},
		"9999":                  {"2000-01-01 00:00:00 0"},
	} {
		mustBe(t, read(t, "Zone A 0 - A "+until+"\n0:01 - B"), 0, 2000, 2001, want...)
	}
	// Weeks may lie between an instant and the year in which its rule says it: three from the 26th of December back, and from the 6th of January on.
	s := read(t, "Rule R 1998 only - Jul 1 0u 168:00 -\nRule R 2000 2001 - Jan Sun<=1 -168:00 1:00 -\nZone A 168:00 R %z")
	mustBe(t, s, 0, 1999, 1999, "1999-01-01 00:00:00 1209600+", "1999-12-05 00:00:00 608400+")
	mustBe(t, s, 0, 2000, 2001, "2000-01-01 00:00:00 608400+")
	// As far behind as it may be, in the last second.
	s = read(t, "Rule R 1998 only - Jul 1 0u 168:00 -\nRule R 2000 only - Jan 14 23:59:59 1:00 -\nZone A 168:00 R %z")
	mustBe(t, s, 0, 1999, 1999, "1999-01-01 00:00:00 1209600+", "1999-12-31 23:59:59 608400+")
	s = read(t, "Rule R 1998 only - Jul 1 0u 168:00 -\nRule R 2000 only - Jan 15 0 1:00 -\nZone A 168:00 R %z")
	mustBe(t, s, 0, 1999, 1999, "1999-01-01 00:00:00 1209600+")
	s = read(t, "Rule R 1998 only - Jul 1 0u -168:00 -\nRule R 2000 only - Dec Sat>=31 168:00 1:00 -\nZone A -168:00 R %z")
	mustBe(t, s, 0, 2000, 2000, "2000-01-01 00:00:00 -1209600+")
	mustBe(t, s, 0, 2001, 2001, "2001-01-01 00:00:00 -1209600+", "2001-01-27 00:00:00 -601200+")
	s = read(t, "Rule R 1 only - Dec Sat>=31 168:00u 1:00 -\nRule R 9999 only - Jan Sun<=1 -168:00 0:20 -\nZone A 1:00 R %z")
	mustBe(t, s, 0, 2, 2, "0002-01-01 00:00:00 3600", "0002-01-12 00:00:00 7200+")
	mustBe(t, s, 0, 9998, 9998, "9998-01-01 00:00:00 7200+", "9998-12-19 22:00:00 4800+")
}

// Promise 18.1: occurrences whose instants do not rise, and eras whose ends do not.
func TestOfOrder(t *testing.T) {
	for _, c := range []struct {
		text string
		want []string
	}{
		// What stands behind counts from its instant on, and what stands ahead never.
		{"Rule R 2000 only - Jul 1 10:00u 1:00 X\nRule R 2000 only - Jul 1 10:30 0:20 Y\nZone A 0 R %s", []string{"2000-01-01 00:00:00 0", "2000-07-01 09:30:00 1200+"}},
		{"Rule R 2000 only - Jul 1 10:00u 1:00 X\nRule R 2000 only - Jul 2 0s 0:20 Y\nRule R 2000 only - Jul 2 5:00u 0:10 Z\nZone A 24:00 R %s", []string{
			"2000-01-01 00:00:00 86400", "2000-07-01 00:00:00 87600+", "2000-07-02 05:00:00 87000+"}},
		{"Rule R 2000 only - Jul 1 0 1:00 X\nRule R 2000 only - Jul 1 0 0:20 Y\nZone A 0 R %s", []string{"2000-01-01 00:00:00 0", "2000-06-30 23:00:00 1200+"}},
		{"Rule R 2000 only - Jul 1 0 -1:00 X\nRule R 2000 only - Jul 1 0 0:20 Y\nZone A 0 R %s", []string{
			"2000-01-01 00:00:00 0", "2000-07-01 00:00:00 -3600+", "2000-07-01 01:00:00 1200+"}},
		// An era that ends ahead of the one ahead of it never holds.
		{"Zone A -12:00 - A 2000 Jan 1\n12:00 - B 2000 Jan 1 12:00\n0 - C", []string{"2000-01-01 00:00:00 -43200", "2000-01-01 12:00:00 0"}},
		{"Zone A -12:00 - A 2000 Jul 1\n12:00 - B 2000 Jul 1 12:00\n10:00 - C 2000 Jul 1 12:01\n0 - D", []string{"2000-01-01 00:00:00 -43200", "2000-07-01 12:00:00 0"}},
		{"Zone A 0 - A 2000 Jul 1 0u\n12:00 - B 2000 Jul 1 12:00\n1:00 - C", []string{"2000-01-01 00:00:00 0", "2000-07-01 00:00:00 3600"}},
		// Rules count by the standard offset of the era that holds, from where it begins.
		{"Rule R 2000 only - Jul 1 0 1:00 X\nZone A 2:00 R a%s 2000 Jul 1 3:00\n6:00 R b%s 2000 Jul 2\n-6:00 R c%s", []string{
			"2000-01-01 00:00:00 7200", "2000-06-30 22:00:00 10800+", "2000-07-01 00:00:00 25200+", "2000-07-01 17:00:00 -18000+"}},
		{"Rule R 2000 only - Jul 1 0s 1:00 X\nZone A 2:00 R a%s 2000 Jul 1 1:00s\n-6:00 R b%s", []string{
			"2000-01-01 00:00:00 7200", "2000-06-30 22:00:00 10800+", "2000-06-30 23:00:00 -21600", "2000-07-01 06:00:00 -18000+"}},
		// Eras of the same rules, with another one between.
		{"Rule R 1 max - Apr 1 0u 1:00 X\nRule R 1 max - Oct 1 0u 0 -\nRule S 1 max - Jun 1 0u 0:20 -\nZone A 0 R %s 2000 May 1 0u\n0 S %s 2000 Jul 1 0u\n0 R %s", []string{
			"2000-01-01 00:00:00 0", "2000-04-01 00:00:00 3600+", "2000-05-01 00:00:00 1200+", "2000-07-01 00:00:00 3600+", "2000-10-01 00:00:00 0",
			"2001-04-01 00:00:00 3600+", "2001-10-01 00:00:00 0"}},
	} {
		mustBe(t, read(t, c.text), 0, 2000, 2001, c.want...)
	}
}

// Promise 18.1: where a year begins.
func TestBegin(t *testing.T) {
	for y := minYear; y <= maxYear+1; y++ {
		if got, why := Begin(y); why != api.OK || got != time.Date(y, 1, 1, 0, 0, 0, 0, time.UTC).Unix() {
			t.Errorf("the year %d begins at %d, %d", y, got, why)
		}
	}
	for _, far := range farYears {
		if got, why := Begin(far); why != api.ErrRange || got != 0 {
			t.Errorf("the year %d begins at %d, %d", far, got, why)
		}
	}
}

// wrong is sources that are not well, each for one reason.
func wrong(t *testing.T) []api.Source {
	t.Helper()
	var l []api.Source
	for _, change := range []func(s *api.Source){
		func(s *api.Source) { s.Rules[0].Letter = "-" },
		func(s *api.Source) { s.Rules[3].From = 0 },
		func(s *api.Source) { s.Zones[0].Eras = nil },
		func(s *api.Source) { s.Zones[1].Eras = s.Zones[1].Eras[:3] },
		func(s *api.Source) { s.Zones[1].Eras[0].Std = 604801 },
		func(s *api.Source) { s.Zones[1].Name = "" },
		func(s *api.Source) { s.Links[0].Name = "x y" },
		// It is right, but has a flaw.
		func(s *api.Source) { s.Zones[1].Name = "UTC" },
		func(s *api.Source) { s.Zones[1].Eras[2].Rules = "None" },
		func(s *api.Source) { s.Zones[1].Eras[0].Until.Year = 1946 },
		func(s *api.Source) { s.Links[0].Target = s.Links[0].Name },
	} {
		s := read(t, europe)
		change(&s)
		l = append(l, s)
	}
	return l
}

// Promise 18.1: sources, zones and years that are wrong; of several the source is named first, then the zone.
func TestWrong(t *testing.T) {
	years := [][2]int{{2000, 2000}, {2, 401}, {1, 2000}, {2001, 2000}, {2000, 9999}, {1000, 2000}, {math.MaxInt, math.MinInt}}
	for i, s := range wrong(t) {
		for _, z := range []int{0, 1, -1, 3} {
			for _, y := range years {
				if got, why := Of(s, z, y[0], y[1]); len(got) != 0 || why != api.ErrForm {
					t.Errorf("of the source %d, %d, %v it is %v, %d", i, z, y, got, why)
				}
			}
		}
	}
	for _, z := range []int{-1, -2, 3, 4, math.MinInt, math.MaxInt} {
		for _, y := range years {
			if got, why := Of(read(t, europe), z, y[0], y[1]); len(got) != 0 || why != api.ErrNone {
				t.Errorf("of the zone %d, %v it is %v, %d", z, y, got, why)
			}
		}
	}
	if got, why := Of(api.Source{}, 0, 1, 1); len(got) != 0 || why != api.ErrNone {
		t.Errorf("of nothing it is %v, %d", got, why)
	}
}

// Promise 18.1: up to MaxYears years, above the first year and below the last one.
func TestYears(t *testing.T) {
	s := read(t, europe)
	for _, y := range [][2]int{{2, 2}, {2, 3}, {2, 1 + maxYears}, {2000, 2000}, {2000, 1999 + maxYears}, {9998, 9998}, {9999 - maxYears, 9998}, {1000, 1399}} {
		for z := range s.Zones {
			got, why := Of(s, z, y[0], y[1])
			if why != api.OK || len(got) == 0 || got[0].From != time.Date(y[0], 1, 1, 0, 0, 0, 0, time.UTC).Unix() {
				t.Errorf("of the zone %d, %v it is %v, %d", z, y, got, why)
			}
		}
	}
	wrong := [][2]int{{1, 1}, {1, 2}, {1, 400}, {9999, 9999}, {9998, 9999}, {9600, 9999}, {2001, 2000}, {9998, 2}, {3, 2},
		{2, 2 + maxYears}, {2000, 2000 + maxYears}, {9998 - maxYears, 9998}, {2, 9998}, {1, 9999}, {10000, 10000}, {0, 0}, {math.MinInt, math.MaxInt}, {math.MaxInt, math.MinInt}}
	for _, far := range farYears {
		wrong = append(wrong, [2]int{far, 2000}, [2]int{2000, far}, [2]int{far, far}, [2]int{2, far}, [2]int{far, 9998})
	}
	for _, y := range wrong {
		for z := range s.Zones {
			if got, why := Of(s, z, y[0], y[1]); len(got) != 0 || why != api.ErrRange {
				t.Errorf("of the zone %d, %v it is %v, %d", z, y, got, why)
			}
		}
	}
}

// someTime is a time, often one of those that are far, or as far as may be.
func someTime(r *rand.Rand) int64 {
	switch r.Intn(4) {
	case 0:
		return []int64{-604800, 604800, -86400, 86400, 0}[r.Intn(5)]
	case 1:
		return int64(r.Intn(1209601) - 604800)
	}
	return int64(r.Intn(29)-14) * 1800
}

// someDay is a day of a month, of any kind, often near a month's end.
func someDay(r *rand.Rand) api.Day {
	on := api.Day{Kind: api.DayKind(r.Intn(4)), N: []int{1, 2, 7, 15, 28, 29, 31}[r.Intn(7)], Dow: r.Intn(7)}
	switch on.Kind {
	case api.DayFixed:
		on.Dow = 0
	case api.DayLast:
		on.N = 0
	}
	return on
}

// someRules is some rules, of two names, of years near to one.
func someRules(r *rand.Rand, near int) []api.Rule {
	year := func(far int) int { return max(minYear, min(maxYear, near+r.Intn(2*far+1)-far)) }
	var l []api.Rule
	for i := range 2 + r.Intn(8) {
		one := api.Rule{Name: []string{"R", "S"}[i%2], From: year(5), Month: []int{12, 1, 12, 1, 2, 6, 7}[r.Intn(7)], On: someDay(r)}
		one.To = max(one.From, year(4))
		one.At = api.Moment{Sec: someTime(r), Clock: api.ClockKind(r.Intn(3))}
		one.Save, one.Letter = someTime(r)*int64(r.Intn(2)), string(rune('A'+i))
		l = append(l, one)
	}
	return l
}

// someZone is a zone of some eras that end near a year, one or some days behind the other.
func someZone(r *rand.Rand, near int) api.Zone {
	z := api.Zone{Name: "A"}
	days := 1 + r.Intn(28)
	for range 1 + r.Intn(5) {
		e := api.Era{Std: someTime(r), Kind: api.EraKind(r.Intn(3)), Format: "%s", Ends: true}
		switch e.Kind {
		case api.EraSave:
			e.Save = someTime(r)
		case api.EraRules:
			e.Rules = []string{"R", "S"}[r.Intn(2)]
		}
		e.Until = api.Until{Year: near, Month: 1 + days/28, On: api.Day{N: 1 + days%28}, At: api.Moment{Sec: int64(r.Intn(86400)), Clock: api.ClockKind(r.Intn(3))}}
		days += 1 + r.Intn([]int{3, 100}[r.Intn(2)])
		if days/28 > 11 {
			break
		}
		z.Eras = append(z.Eras, e)
	}
	z.Eras = append(z.Eras, api.Era{Std: someTime(r), Kind: api.EraRules, Rules: "R", Format: "%s"})
	return z
}

// someSource is a source that is well.
func someSource(t *testing.T, r *rand.Rand, near int) api.Source {
	t.Helper()
	s := api.Source{Rules: someRules(r, near), Zones: []api.Zone{someZone(r, near)}}
	if !valid.Well(s) {
		t.Fatalf("%v is not well: %v", s, valid.Flaws(s))
	}
	return s
}

// times is when the eras of the zone z end, and when rules occur by their standard offsets, in order.
func times(s api.Source, z int) []int64 {
	l, _ := edge.Ends(s, z)
	for _, e := range s.Zones[z].Eras {
		all, _ := occur.Of(source.Rules(s, e.Rules), minYear, maxYear)
		for _, o := range all {
			at, _ := moment.Instant(o.Nominal, o.Clock, e.Std, o.Before)
			l = append(l, at)
		}
	}
	slices.Sort(l)
	return slices.Compact(l)
}

// state is the Off and the Dst of the zone z at t, by the layer below.
func state(t *testing.T, s api.Source, z int, at int64) api.Span {
	t.Helper()
	got, why := ideal.At(s, z, at)
	if why != api.OK {
		t.Fatalf("of %v at %d it is %d", s, at, why)
	}
	return api.Span{From: at, Off: got.Off, Dst: got.Dst}
}

// like tells whether a and b are of one Off and one Dst.
func like(a, b api.Span) bool {
	return a.Off == b.Off && a.Dst == b.Dst
}

// model is the line of the zone z, by the states at all times at which something may change.
func model(t *testing.T, s api.Source, z, lo, hi int) []api.Span {
	t.Helper()
	from, to := time.Date(lo, 1, 1, 0, 0, 0, 0, time.UTC).Unix(), time.Date(hi+1, 1, 1, 0, 0, 0, 0, time.UTC).Unix()
	l := []api.Span{state(t, s, z, from)}
	for _, at := range times(s, z) {
		if at <= from || at >= to {
			continue
		}
		if span := state(t, s, z, at); !like(span, state(t, s, z, at-1)) {
			l = append(l, span)
		}
	}
	return l
}

// Promise 18.1: against a second way of finding the line.
func TestModel(t *testing.T) {
	r := rand.New(rand.NewSource(18))
	for round := range 3000 {
		near := []int{1, 2, 3, 1904, 1970, 2000, 9997, 9998, 9999}[round%9]
		s := someSource(t, r, near)
		for range 3 {
			lo := max(2, min(9998, near+r.Intn(7)-4))
			hi := min(9998, lo+r.Intn(4))
			got, why := Of(s, 0, lo, hi)
			if want := model(t, s, 0, lo, hi); why != api.OK || !slices.Equal(got, want) {
				t.Fatalf("of %v from %d to %d it is, %d,\n%v\nnot\n%v", s, lo, hi, why, shown(got), shown(want))
			}
		}
	}
}

// Promise 18.2: at each instant the last span that is not behind it has the state's Off and Dst; two that follow are unlike.
func TestJustThese(t *testing.T) {
	r := rand.New(rand.NewSource(182))
	sources := []api.Source{read(t, europe)}
	sources[0].Zones = sources[0].Zones[1:]
	sources[0].Links = nil
	for range 500 {
		sources = append(sources, someSource(t, r, 1975))
	}
	for _, s := range sources {
		l, why := Of(s, 0, 1850, 2050)
		if why != api.OK || len(l) == 0 {
			t.Fatalf("of %v it is %v, %d", s, l, why)
		}
		for i, span := range l {
			to := utc(t, "2051-01-01 00:00:00")
			if i+1 < len(l) {
				to = l[i+1].From
			}
			if span.From >= to || i+1 < len(l) && like(span, l[i+1]) {
				t.Fatalf("of %v it is %v", s, shown(l))
			}
			for _, at := range []int64{span.From, span.From + r.Int63n(to-span.From), to - 1} {
				if !like(state(t, s, 0, at), span) {
					t.Fatalf("of %v it is %v, but at %d %v", s, shown(l), at, state(t, s, 0, at))
				}
			}
		}
	}
}

// Promise 18.2: the line of fewer years is a part of that of more.
func TestParts(t *testing.T) {
	s := read(t, europe)
	for z := range s.Zones {
		all, _ := Of(s, z, 1850, 2050)
		for lo := 1850; lo <= 2050; lo += 7 {
			hi := min(2050, lo+lo%11)
			from, to := time.Date(lo, 1, 1, 0, 0, 0, 0, time.UTC).Unix(), time.Date(hi+1, 1, 1, 0, 0, 0, 0, time.UTC).Unix()
			var want []api.Span
			for _, span := range all {
				switch {
				case span.From <= from:
					want = []api.Span{{From: from, Off: span.Off, Dst: span.Dst}}
				case span.From < to:
					want = append(want, span)
				}
			}
			if got, why := Of(s, z, lo, hi); why != api.OK || !slices.Equal(got, want) {
				t.Errorf("of the zone %d from %d to %d it is %v, %d, not %v", z, lo, hi, shown(got), why, shown(want))
			}
		}
	}
}

// Promise 18.1: what is handed in is not changed, and what is answered is not shared.
func TestKeepsSource(t *testing.T) {
	s, want := read(t, europe), read(t, europe)
	l, _ := Of(s, 1, 1940, 1990)
	again := slices.Clone(l)
	clear(l)
	_ = append(l, api.Span{})
	if got, why := Of(s, 1, 1940, 1990); why != api.OK || !slices.Equal(got, again) || len(again) < 20 || !source.Same(s, want) {
		t.Errorf("it is %v, %d, of %v", got, why, s)
	}
}

// Promise 18.1: as many rules, eras and years as there may be.
func TestFull(t *testing.T) {
	s := api.Source{Zones: []api.Zone{{Name: "A"}}}
	for i := range maxRules {
		r := api.Rule{Name: "R", From: 1, To: 9999, Month: 6, On: api.Day{N: 1}, At: api.Moment{Sec: int64(i), Clock: api.ClockUniversal}, Save: int64(i)}
		s.Rules = append(s.Rules, r)
	}
	for i := range maxEras - 1 {
		until := api.Until{Year: 2001 + i, Month: 1, On: api.Day{N: 1}, At: api.Moment{Clock: api.ClockUniversal}}
		s.Zones[0].Eras = append(s.Zones[0].Eras, api.Era{Std: int64(i), Kind: api.EraRules, Rules: "R", Format: "A", Ends: true, Until: until})
	}
	s.Zones[0].Eras = append(s.Zones[0].Eras, api.Era{Std: 100000, Format: "B"})
	l, why := Of(s, 0, 2000, 2399)
	if why != api.OK || len(l) != (maxEras-1)*(maxRules+1)+1 {
		t.Fatalf("there are %d, %d", len(l), why)
	}
	for i, span := range l[:len(l)-1] {
		year, n := i/(maxRules+1), i%(maxRules+1)
		want := api.Span{From: time.Date(2000+year, 6, 1, 0, 0, n-1, 0, time.UTC).Unix(), Off: int64(year + n - 1), Dst: n > 1}
		if n == 0 {
			// The last rule of the year ahead holds when the era begins.
			want = api.Span{From: time.Date(2000+year, 1, 1, 0, 0, 0, 0, time.UTC).Unix(), Off: int64(year + maxRules - 1), Dst: true}
		}
		if span != want {
			t.Fatalf("it is %v, not %v", span, want)
		}
	}
	if span, want := l[len(l)-1], (api.Span{From: utc(t, "2063-01-01 00:00:00"), Off: 100000}); span != want {
		t.Errorf("at last it is %v, not %v", span, want)
	}
}
