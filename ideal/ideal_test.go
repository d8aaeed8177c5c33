package ideal

import (
	"fmt"
	"math"
	"math/rand"
	"slices"
	"strings"
	"testing"
	"time"

	"solstice/abbr"
	"solstice/api"
	"solstice/edge"
	"solstice/link"
	"solstice/moment"
	"solstice/occur"
	"solstice/source"
	"solstice/valid"
)

// The limits, as the document tells them.
const (
	minYear  = 1
	maxYear  = 9999
	maxRules = 4096
	maxEras  = 64
)

// europe is a source with zones whose eras are of all kinds.
const europe = `Rule C-Eur 1944 1945 - Apr Mon>=1 2:00s 1:00 S
Rule C-Eur 1944 only - Oct 2 2:00s 0 -
Rule SovietZone 1945 only - May 24 2:00 2:00 M
Rule SovietZone 1945 only - Sep 24 3:00 1:00 S
Rule SovietZone 1945 only - Nov 18 2:00s 0 -
Rule Germany 1946 only - Apr 14 2:00s 1:00 S
Rule Germany 1946 only - Oct 7 2:00s 0 -
Rule Germany 1947 1949 - Oct Sun>=1 2:00s 0 -
Rule Germany 1947 only - Apr 6 3:00s 1:00 S
Rule Germany 1947 only - May 11 2:00s 2:00 M
Rule Germany 1947 only - Jun 29 3:00 1:00 S
Rule EU 1977 1980 - Apr Sun>=1 1:00u 1:00 S
Rule EU 1977 only - Sep lastSun 1:00u 0 -
Rule EU 1978 only - Oct 1 1:00u 0 -
Rule EU 1979 1995 - Sep lastSun 1:00u 0 -
Rule EU 1981 max - Mar lastSun 1:00u 1:00 S
Rule EU 1996 max - Oct lastSun 1:00u 0 -
Rule Eire 1981 max - Mar lastSun 1:00u 0 -
Rule Eire 1996 max - Oct lastSun 1:00u -1:00 -
Zone UTC 0 - UTC
Zone Europe/Berlin 0:53:28 - LMT 1893 Apr
	1:00 C-Eur CE%sT 1945 May 24 2:00
	1:00 SovietZone CE%sT 1946
	1:00 Germany CE%sT 1980
	1:00 EU CE%sT
Zone Europe/Dublin 1:00 Eire IST/GMT
Zone Asia/Kathmandu 5:41:16 - LMT 1920
	5:30 - %z 1986
	5:45 - %z
Zone Africa/Lome 0:04:52 - LMT 1893
	0 0:20 GM%sT 1940
	0 -0:30 G/S 1950
	0 0 G/S
Link Europe/Berlin Arctic/Longyearbyen
Link Arctic/Longyearbyen Atlantic/Jan_Mayen
Link UTC Etc/UTC
`

// read is the source that a text tells.
func read(t *testing.T, text string) api.Source {
	t.Helper()
	s, f := source.Parse(text)
	if f != (api.Fault{}) {
		t.Fatalf("%q is %v", text, f)
	}
	return s
}

// utc is the seconds up to a time, by the library.
func utc(t *testing.T, text string) int64 {
	t.Helper()
	at, err := time.Parse(time.DateTime, text)
	if err != nil {
		t.Fatal(err)
	}
	return at.Unix()
}

// show is what a state looks like: its offset, a + behind it for Dst, and its short name.
func show(state api.State) string {
	dst := ""
	if state.Dst {
		dst = "+"
	}
	return strings.TrimRight(fmt.Sprintf("%d%s %s", state.Off, dst, state.Abbr), " ")
}

// mustBe tells if, at a time, the state of the zone z is another one.
func mustBe(t *testing.T, s api.Source, z int, at, want string) {
	t.Helper()
	got, why := At(s, z, utc(t, at))
	if why != api.OK || show(got) != want {
		t.Errorf("of %s at %s it is %s, %d, not %s", s.Zones[z].Name, at, show(got), why, want)
	}
}

// Promise 17.1: eras, one behind the other, and what their rules save.
func TestAt(t *testing.T) {
	s := read(t, europe)
	for z, states := range [][][2]string{
		{{"0002-01-01 00:00:00", "0 UTC"}, {"2026-07-01 00:00:00", "0 UTC"}, {"9998-12-31 23:59:59", "0 UTC"}},
		{
			{"0002-01-01 00:00:00", "3208 LMT"},
			{"1893-03-31 23:06:31", "3208 LMT"}, {"1893-03-31 23:06:32", "3600 CET"},
			{"1944-04-03 00:59:59", "3600 CET"}, {"1944-04-03 01:00:00", "7200+ CEST"},
			{"1944-10-02 00:59:59", "7200+ CEST"}, {"1944-10-02 01:00:00", "3600 CET"},
			// By the standard offset of the era that begins, its first rule occurs an hour later than it begins.
			{"1945-05-23 23:59:59", "7200+ CEST"}, {"1945-05-24 00:00:00", "3600 CET"},
			{"1945-05-24 00:59:59", "3600 CET"}, {"1945-05-24 01:00:00", "10800+ CEMT"},
			{"1945-09-23 23:59:59", "10800+ CEMT"}, {"1945-09-24 00:00:00", "7200+ CEST"},
			{"1945-11-18 00:59:59", "7200+ CEST"}, {"1945-11-18 01:00:00", "3600 CET"},
			{"1945-12-31 23:00:00", "3600 CET"}, {"1946-04-14 01:00:00", "7200+ CEST"},
			{"1947-05-11 00:59:59", "7200+ CEST"}, {"1947-05-11 01:00:00", "10800+ CEMT"},
			{"1947-06-28 23:59:59", "10800+ CEMT"}, {"1947-06-29 00:00:00", "7200+ CEST"},
			{"1947-10-05 00:59:59", "7200+ CEST"}, {"1947-10-05 01:00:00", "3600 CET"},
			{"1979-07-01 00:00:00", "3600 CET"}, {"1980-01-01 00:00:00", "3600 CET"},
			{"1980-04-06 00:59:59", "3600 CET"}, {"1980-04-06 01:00:00", "7200+ CEST"},
			{"2026-03-29 00:59:59", "3600 CET"}, {"2026-03-29 01:00:00", "7200+ CEST"},
			{"2026-10-25 00:59:59", "7200+ CEST"}, {"2026-10-25 01:00:00", "3600 CET"},
			{"9998-03-29 01:00:00", "7200+ CEST"}, {"9998-12-31 23:59:59", "3600 CET"},
		},
		{ // Less than nothing is saved in winter.
			{"1980-01-01 00:00:00", "3600 IST"}, {"1981-12-31 00:00:00", "3600 IST"},
			{"2026-10-25 00:59:59", "3600 IST"}, {"2026-10-25 01:00:00", "0+ GMT"},
			{"2027-03-28 00:59:59", "0+ GMT"}, {"2027-03-28 01:00:00", "3600 IST"},
		},
		{
			{"1919-12-31 18:18:43", "20476 LMT"}, {"1919-12-31 18:18:44", "19800 +0530"},
			{"1985-12-31 18:29:59", "19800 +0530"}, {"1985-12-31 18:30:00", "20700 +0545"},
		},
		{ // What an era saves by itself has no letter; Dst tells whether it is not 0.
			{"1892-12-31 23:55:07", "292 LMT"}, {"1892-12-31 23:55:08", "1200+ GMT"},
			{"1939-12-31 23:39:59", "1200+ GMT"}, {"1939-12-31 23:40:00", "-1800+ S"},
			{"1950-01-01 00:29:59", "-1800+ S"}, {"1950-01-01 00:30:00", "0 G"},
		},
	} {
		for _, c := range states {
			mustBe(t, s, z, c[0], c[1])
		}
	}
}

// Promise 17.1: which occurrence counts: the last one, in order, whose instant is not above the time.
func TestAtOccurrences(t *testing.T) {
	for _, c := range []struct {
		rules string
		era   string
		want  [][2]string
	}{
		// Ahead of all of them nothing is saved, and there is no letter; a letter may stand where nothing is saved.
		{"Rule R 2000 only - Jul 1 0u 0 X\nRule R 2001 only - Jul 1 0u 0:20 Y", "0 R a%sb", [][2]string{
			{"1999-01-01 00:00:00", "0 ab"}, {"2000-06-30 23:59:59", "0 ab"}, {"2000-07-01 00:00:00", "0 aXb"}, {"2001-07-01 00:00:00", "1200+ aYb"}}},
		// By each clock.
		{"Rule R 2000 only - Jul 1 0 1:00 X\nRule R 2000 only - Aug 1 0 0:20 Y", "-3:00 R %s", [][2]string{
			{"2000-07-01 02:59:59", "-10800"}, {"2000-07-01 03:00:00", "-7200+ X"}, {"2000-08-01 01:59:59", "-7200+ X"}, {"2000-08-01 02:00:00", "-9600+ Y"}}},
		{"Rule R 2000 only - Jul 1 0s 1:00 X\nRule R 2000 only - Aug 1 0s 0:20 Y", "-3:00 R %s", [][2]string{
			{"2000-07-01 02:59:59", "-10800"}, {"2000-07-01 03:00:00", "-7200+ X"}, {"2000-08-01 02:59:59", "-7200+ X"}, {"2000-08-01 03:00:00", "-9600+ Y"}}},
		{"Rule R 2000 only - Jul 1 0u 1:00 X\nRule R 2000 only - Aug 1 0u 0:20 Y", "-3:00 R %s", [][2]string{
			{"2000-06-30 23:59:59", "-10800"}, {"2000-07-01 00:00:00", "-7200+ X"}, {"2000-07-31 23:59:59", "-7200+ X"}, {"2000-08-01 00:00:00", "-9600+ Y"}}},
		// Of one time the rule counts that stands last, and each one is told by what the one ahead of it saves.
		{"Rule R 2000 only - Jul 1 0u 1:00 X\nRule R 2000 only - Jul 1 0u 0:20 Y", "0 R %s", [][2]string{{"2000-06-30 23:59:59", "0"}, {"2000-07-01 00:00:00", "1200+ Y"}}},
		{"Rule R 2000 only - Jul 1 0 1:00 X\nRule R 2000 only - Jul 1 0 0:20 Y", "0 R %s", [][2]string{
			{"2000-06-30 22:59:59", "0"}, {"2000-06-30 23:00:00", "1200+ Y"}, {"2000-07-01 00:00:00", "1200+ Y"}}},
		{"Rule R 2000 only - Jul 1 0 -1:00 X\nRule R 2000 only - Jul 1 0 0:20 Y", "0 R %s", [][2]string{
			{"2000-07-01 00:00:00", "-3600+ X"}, {"2000-07-01 00:59:59", "-3600+ X"}, {"2000-07-01 01:00:00", "1200+ Y"}}},
		// The order is that of what is told, not of the instants: what stands behind counts, though it was there ahead.
		{"Rule R 2000 only - Jul 1 10:00u 1:00 X\nRule R 2000 only - Jul 1 10:30 0:20 Y", "0 R %s", [][2]string{
			{"2000-07-01 09:29:59", "0"}, {"2000-07-01 09:30:00", "1200+ Y"}, {"2000-07-01 10:00:00", "1200+ Y"}, {"2000-07-01 10:30:00", "1200+ Y"}}},
		{"Rule R 2000 only - Jul 1 10:00u 1:00 X\nRule R 2000 only - Jul 2 0 0:20 Y\nRule R 2000 only - Jul 2 5:00u 0:10 Z", "12:00 R %s", [][2]string{
			{"2000-07-01 09:59:59", "43200"}, {"2000-07-01 10:00:00", "46800+ X"}, {"2000-07-01 11:00:00", "44400+ Y"}, {"2000-07-02 05:00:00", "43800+ Z"}}},
		{"Rule R 2000 only - Jul 1 10:00u 1:00 X\nRule R 2000 only - Jul 2 0s 0:20 Y\nRule R 2000 only - Jul 2 5:00u 0:10 Z", "24:00 R %s", [][2]string{
			{"2000-06-30 23:59:59", "86400"}, {"2000-07-01 00:00:00", "87600+ Y"}, {"2000-07-01 10:00:00", "87600+ Y"}, {"2000-07-02 05:00:00", "87000+ Z"}}},
		// What was saved long ago is saved still; rules of other names count for nothing.
		{"Rule R 1 only - Jul 1 0 1:00 X\nRule Q 2 max - Jul 1 0 0:20 Y", "0 R %s", [][2]string{{"0002-01-01 00:00:00", "3600+ X"}, {"9998-12-31 23:59:59", "3600+ X"}}},
		{"Rule R 1 only - Jul 1 0 0:20 Y\nRule R 3 only - Dec 31 168:00u 1:00 X", "0 R %s", [][2]string{
			{"0004-01-06 23:59:59", "1200+ Y"}, {"0004-01-07 00:00:00", "3600+ X"}, {"9000-01-01 00:00:00", "3600+ X"}}},
		{"Rule R 1 max - Feb 29 0u 1:00 X\nRule R 1 2000 - Feb 28 0u 0:20 Y\nRule R 1 max - Feb 30 0 0:40 Z", "0 R %s", [][2]string{
			{"1903-12-31 00:00:00", "1200+ Y"}, {"1904-02-29 00:00:00", "3600+ X"}, {"1905-02-27 00:00:00", "3600+ X"}, {"1905-02-28 00:00:00", "1200+ Y"}, {"2103-01-01 00:00:00", "3600+ X"}}},
		// It is the last one long ago, in order, though another one is of a later year.
		{"Rule R 1980 only - Dec Sat>=31 168:00u 1:00 X\nRule R 1981 only - Jan 1 0u 0:20 Y", "0 R %s", [][2]string{
			{"1981-01-01 00:00:00", "1200+ Y"}, {"1981-01-07 00:00:00", "1200+ Y"}, {"1981-01-10 00:00:00", "3600+ X"}, {"1999-01-01 00:00:00", "3600+ X"}}},
	} {
		s := read(t, c.rules+"\nZone A "+c.era)
		for _, want := range c.want {
			mustBe(t, s, 0, want[0], want[1])
		}
	}
}

// Promise 17.1: an instant may lie weeks ahead of the year in which its rule says it, or behind.
func TestAtFarInstants(t *testing.T) {
	// The first Sunday up to the first of January 2000 is the 26th of December; three weeks ahead of that is the 5th.
	s := read(t, "Rule R 1998 only - Jul 1 0u 168:00 X\nRule R 2000 2001 - Jan Sun<=1 -168:00 1:00 Y\nZone A 168:00 R %s")
	mustBe(t, s, 0, "1999-12-04 23:59:59", "1209600+ X")
	mustBe(t, s, 0, "1999-12-05 00:00:00", "608400+ Y")
	// The first Saturday from the 31st of December 2000 on is the 6th of January; three weeks behind that is the 27th.
	s = read(t, "Rule R 1998 only - Jul 1 0u -168:00 X\nRule R 2000 only - Dec Sat>=31 168:00 1:00 Y\nZone A -168:00 R %s")
	mustBe(t, s, 0, "2000-12-31 23:59:59", "-1209600+ X")
	mustBe(t, s, 0, "2001-01-26 23:59:59", "-1209600+ X")
	mustBe(t, s, 0, "2001-01-27 00:00:00", "-601200+ Y")
	// At both ends of what is told.
	s = read(t, "Rule R 1 only - Dec Sat>=31 168:00u 1:00 X\nRule R 9999 only - Jan Sun<=1 -168:00 0:20 Y\nZone A 1:00 R %s")
	mustBe(t, s, 0, "0002-01-01 00:00:00", "3600")
	mustBe(t, s, 0, "0002-01-11 23:59:59", "3600")
	mustBe(t, s, 0, "0002-01-12 00:00:00", "7200+ X")
	mustBe(t, s, 0, "9998-12-19 21:59:59", "7200+ X")
	mustBe(t, s, 0, "9998-12-19 22:00:00", "4800+ Y")
}

// Promise 17.1: the first era holds that ends later, though the one behind it ended ahead.
func TestAtEnds(t *testing.T) {
	s := read(t, "Zone A -12:00 - A 2000 Jan 1\n12:00 - B 2000 Jan 1 12:00\n0 - C")
	for at, want := range map[string]string{"1999-12-31 23:59:59": "-43200 A", "2000-01-01 11:59:59": "-43200 A", "2000-01-01 12:00:00": "0 C"} {
		mustBe(t, s, 0, at, want)
	}
	// An occurrence counts by the standard offset of the era that holds, wherever it lies.
	s = read(t, "Rule R 2000 only - Jul 1 0 1:00 X\nZone A 2:00 R a%s 2000 Jul 1 3:00\n6:00 R b%s 2000 Jul 2\n-6:00 R c%s")
	for at, want := range map[string]string{
		"2000-06-30 21:59:59": "7200 a", "2000-06-30 22:00:00": "10800+ aX", "2000-06-30 23:59:59": "10800+ aX",
		"2000-07-01 00:00:00": "25200+ bX", "2000-07-01 16:59:59": "25200+ bX", "2000-07-01 17:00:00": "-18000+ cX",
	} {
		mustBe(t, s, 0, at, want)
	}
	s = read(t, "Rule R 2000 only - Jul 1 0s 1:00 X\nZone A 2:00 R a%s 2000 Jul 1 1:00s\n-6:00 R b%s")
	for at, want := range map[string]string{
		"2000-06-30 22:00:00": "10800+ aX", "2000-06-30 22:59:59": "10800+ aX", "2000-06-30 23:00:00": "-21600 b", "2000-07-01 05:59:59": "-21600 b", "2000-07-01 06:00:00": "-18000+ bX",
	} {
		mustBe(t, s, 0, at, want)
	}
}

// Promise 17.1: where there is no short name, it is empty.
func TestAtNoAbbr(t *testing.T) {
	for era, want := range map[string]string{
		"99:59:59 - %z": "359999 +995959", "100:00 - %z": "360000", "-99:59:59 - %z": "-359999 -995959", "-168:00 - %z": "-604800",
		"99:00 1:00 %z": "360000+", "168:00 -168:00 %z": "0+ +00", "100:00 - LMT": "360000 LMT", "168:00 168:00 A/B": "1209600+ B", "1:00 - %s": "3600",
	} {
		mustBe(t, read(t, "Zone A "+era), 0, "2000-01-01 00:00:00", want)
	}
}

// wrong is sources that are not well, each for one reason.
func wrong(t *testing.T) []api.Source {
	t.Helper()
	var l []api.Source
	for _, change := range []func(s *api.Source){
		func(s *api.Source) { s.Rules[0].Letter = "-" },
		func(s *api.Source) { s.Rules[3].From = 0 },
		func(s *api.Source) { s.Zones[0].Eras = nil },
		func(s *api.Source) { s.Zones[1].Eras = s.Zones[1].Eras[:3] },
		func(s *api.Source) { s.Zones[1].Eras[0].Std = 604801 },
		func(s *api.Source) { s.Zones[1].Eras[1].Kind = api.EraCount },
		func(s *api.Source) { s.Zones[1].Name = "" },
		func(s *api.Source) { s.Links[0].Name = "x y" },
		// It is right, but has a flaw.
		func(s *api.Source) { s.Zones[1].Name = "UTC" },
		func(s *api.Source) { s.Zones[1].Eras[2].Rules = "None" },
		func(s *api.Source) { s.Zones[1].Eras[0].Until.Year = 1946 },
		func(s *api.Source) { s.Zones[3].Eras[1].Until.On.N, s.Zones[3].Eras[1].Until.Month = 31, 6 },
		func(s *api.Source) { s.Links[0].Target = "None" },
		func(s *api.Source) { s.Links[0].Target = s.Links[0].Name },
		func(s *api.Source) { s.Links[0].Target = "Atlantic/Jan_Mayen" },
	} {
		s := read(t, europe)
		change(&s)
		l = append(l, s)
	}
	return l
}

// Promise 17.1: of a source that is not well nothing is told, whatever else is wrong.
func TestWrongSources(t *testing.T) {
	for i, s := range wrong(t) {
		for _, at := range []int64{0, math.MinInt64, math.MaxInt64} {
			for _, z := range []int{0, 1, 4, -1, 5} {
				if got, why := At(s, z, at); got != (api.State{}) || why != api.ErrForm {
					t.Errorf("At of the source %d, %d, %d is %v, %d", i, z, at, got, why)
				}
			}
			for _, name := range []string{"UTC", "Europe/Berlin", "Arctic/Longyearbyen", "None", ""} {
				if got, why := Named(s, name, at); got != (api.State{}) || why != api.ErrForm {
					t.Errorf("Named of the source %d, %s, %d is %v, %d", i, name, at, got, why)
				}
				if got, why := Clock(s, name, at); got != 0 || why != api.ErrForm {
					t.Errorf("Clock of the source %d, %s, %d is %v, %d", i, name, at, got, why)
				}
			}
		}
	}
}

// Promise 17.1: zones, and names, that are not there.
func TestNoZone(t *testing.T) {
	s := read(t, europe)
	for _, at := range []int64{0, math.MinInt64, math.MaxInt64, utc(t, "0001-07-01 00:00:00")} {
		for _, z := range []int{-1, -2, 5, 6, math.MinInt, math.MaxInt} {
			if got, why := At(s, z, at); got != (api.State{}) || why != api.ErrNone {
				t.Errorf("At %d, %d is %v, %d", z, at, got, why)
			}
		}
		for _, name := range []string{"", "None", "utc", "Europe", "Europe/Berlin ", "EU"} {
			if got, why := Named(s, name, at); got != (api.State{}) || why != api.ErrNone {
				t.Errorf("Named %q, %d is %v, %d", name, at, got, why)
			}
			if got, why := Clock(s, name, at); got != 0 || why != api.ErrNone {
				t.Errorf("Clock %q, %d is %d, %d", name, at, got, why)
			}
		}
		if got, why := At(api.Source{}, 0, at); got != (api.State{}) || why != api.ErrNone {
			t.Errorf("At of nothing is %v, %d", got, why)
		}
		if got, why := Named(api.Source{}, "UTC", at); got != (api.State{}) || why != api.ErrNone {
			t.Errorf("Named of nothing is %v, %d", got, why)
		}
	}
}

// Promise 17.1: from the year 2 to the year 9998, and no second more.
func TestFarTimes(t *testing.T) {
	s := read(t, europe)
	first, last := utc(t, "0002-01-01 00:00:00"), utc(t, "9998-12-31 23:59:59")
	for _, at := range []int64{
		first - 1, last + 1, utc(t, "0001-01-01 00:00:00"), utc(t, "0001-01-01 00:00:00") - 1, utc(t, "9999-12-31 23:59:59"), utc(t, "9999-12-31 23:59:59") + 1,
		-1 << 40, 1 << 40, math.MinInt64, math.MinInt64 + 1, math.MaxInt64,
	} {
		for z, name := range []string{"UTC", "Europe/Berlin"} {
			if got, why := At(s, z, at); got != (api.State{}) || why != api.ErrRange {
				t.Errorf("At %d is %v, %d", at, got, why)
			}
			if got, why := Named(s, name, at); got != (api.State{}) || why != api.ErrRange {
				t.Errorf("Named at %d is %v, %d", at, got, why)
			}
			if got, why := Clock(s, name, at); got != 0 || why != api.ErrRange {
				t.Errorf("Clock at %d is %d, %d", at, got, why)
			}
		}
	}
	// What the clocks show may be of another year.
	s = read(t, "Zone East 168:00 168:00 E\nZone West -168:00 -168:00 W")
	for _, at := range []int64{first, first + 1, 0, last - 1, last} {
		for name, off := range map[string]int64{"East": 1209600, "West": -1209600} {
			if got, why := Clock(s, name, at); got != at+off || why != api.OK {
				t.Errorf("Clock of %s at %d is %d, %d", name, at, got, why)
			}
		}
	}
}

// Promise 17.1: by a name, and what the clocks show.
func TestNamed(t *testing.T) {
	s := read(t, europe)
	for name, want := range map[string]string{
		"UTC": "0 UTC", "Etc/UTC": "0 UTC", "Europe/Berlin": "7200+ CEST", "Arctic/Longyearbyen": "7200+ CEST", "Atlantic/Jan_Mayen": "7200+ CEST", "Asia/Kathmandu": "20700 +0545",
	} {
		at := utc(t, "2026-07-01 12:00:00")
		got, why := Named(s, name, at)
		if why != api.OK || show(got) != want {
			t.Errorf("%s is %s, %d, not %s", name, show(got), why, want)
		}
		if c, why := Clock(s, name, at); why != api.OK || c != at+got.Off {
			t.Errorf("%s shows %d, %d", name, c, why)
		}
	}
	for at, want := range map[string]string{
		"2026-03-29 00:59:59": "2026-03-29 01:59:59", "2026-03-29 01:00:00": "2026-03-29 03:00:00",
		"2026-10-25 00:59:59": "2026-10-25 02:59:59", "2026-10-25 01:00:00": "2026-10-25 02:00:00",
	} {
		if got, why := Clock(s, "Europe/Berlin", utc(t, at)); why != api.OK || got != utc(t, want) {
			t.Errorf("at %s it shows %d, %d", at, got, why)
		}
	}
}

// someTime is a time, often one of those that are far, or as far as may be.
func someTime(r *rand.Rand) int64 {
	switch r.Intn(4) {
	case 0:
		return []int64{-604800, 604800, -86400, 86400, 0}[r.Intn(5)]
	case 1:
		return int64(r.Intn(1209601) - 604800)
	}
	return int64(r.Intn(29)-14) * 1800
}

// someDay is a day of a month, of any kind, often near a month's end.
func someDay(r *rand.Rand) api.Day {
	on := api.Day{Kind: api.DayKind(r.Intn(4)), N: []int{1, 2, 7, 15, 28, 29, 31}[r.Intn(7)], Dow: r.Intn(7)}
	switch on.Kind {
	case api.DayFixed:
		on.Dow = 0
	case api.DayLast:
		on.N = 0
	}
	return on
}

// someRules is some rules, of two names, of years near to one.
func someRules(r *rand.Rand, near int) []api.Rule {
	year := func(far int) int { return max(minYear, min(maxYear, near+r.Intn(2*far+1)-far)) }
	var l []api.Rule
	for i := range 2 + r.Intn(8) {
		one := api.Rule{Name: []string{"R", "S"}[i%2], From: year(5), Month: []int{12, 1, 12, 1, 2, 6, 7}[r.Intn(7)], On: someDay(r)}
		one.To = max(one.From, year(4))
		one.At = api.Moment{Sec: someTime(r), Clock: api.ClockKind(r.Intn(3))}
		one.Save, one.Letter = someTime(r)*int64(r.Intn(2)), []string{"", string(rune('A' + i))}[r.Intn(2)]
		l = append(l, one)
	}
	return l
}

// someZone is a zone of some eras that end near a year, one or some days behind the other.
func someZone(r *rand.Rand, near int) api.Zone {
	z := api.Zone{Name: "A"}
	days := 1 + r.Intn(28)
	for range 1 + r.Intn(5) {
		e := api.Era{Std: someTime(r), Kind: api.EraKind(r.Intn(3)), Format: []string{"%z", "a%sb", "N/D", "N"}[r.Intn(4)], Ends: true}
		switch e.Kind {
		case api.EraSave:
			e.Save = someTime(r)
		case api.EraRules:
			e.Rules = []string{"R", "S"}[r.Intn(2)]
		}
		e.Until = api.Until{Year: near, Month: 1 + days/28, On: api.Day{N: 1 + days%28}, At: api.Moment{Sec: int64(r.Intn(86400)), Clock: api.ClockKind(r.Intn(3))}}
		days += 1 + r.Intn([]int{3, 100}[r.Intn(2)])
		if days/28 > 11 {
			break
		}
		z.Eras = append(z.Eras, e)
	}
	z.Eras = append(z.Eras, api.Era{Std: someTime(r), Kind: api.EraRules, Rules: "R", Format: "%s"})
	return z
}

// someSource is a source that is well, with a zone A.
func someSource(t *testing.T, r *rand.Rand, near int) api.Source {
	t.Helper()
	s := api.Source{Rules: someRules(r, near), Zones: []api.Zone{{Name: "Z", Eras: []api.Era{{Format: "Z"}}}, someZone(r, near)}, Links: []api.Link{{Target: "A", Name: "L"}}}
	if !valid.Well(s) {
		t.Fatalf("%v is not well: %v", s, valid.Flaws(s))
	}
	return s
}

// times is when the eras of the zone z end, and when rules occur by their standard offsets.
func times(s api.Source, z int) []int64 {
	l, _ := edge.Ends(s, z)
	for _, e := range s.Zones[z].Eras {
		all, _ := occur.Of(source.Rules(s, e.Rules), minYear, maxYear)
		for _, o := range all {
			at, _ := moment.Instant(o.Nominal, o.Clock, e.Std, o.Before)
			l = append(l, at)
		}
	}
	slices.Sort(l)
	return slices.Compact(l)
}

// model is the state of the zone z, from all occurrences that there are, as the document says it.
func model(s api.Source, z int, t int64) api.State {
	ends, _ := edge.Ends(s, z)
	e := s.Zones[z].Eras[len(ends)]
	for i, end := range slices.Backward(ends) {
		if end > t {
			e = s.Zones[z].Eras[i]
		}
	}
	saved, letter := e.Save, ""
	all, _ := occur.Of(source.Rules(s, e.Rules), minYear, maxYear)
	for _, o := range all {
		if at, _ := moment.Instant(o.Nominal, o.Clock, e.Std, o.Before); at <= t {
			saved, letter = o.Save, o.Letter
		}
	}
	name, why := abbr.Of(e.Format, letter, e.Std+saved, saved != 0)
	if why != api.OK {
		name = ""
	}
	return api.State{Off: e.Std + saved, Dst: saved != 0, Abbr: name}
}

// Promise 17.1: against a second way of finding states, at all times at which something may change.
func TestModel(t *testing.T) {
	r := rand.New(rand.NewSource(17))
	first, last := utc(t, "0002-01-01 00:00:00"), utc(t, "9998-12-31 23:59:59")
	for round := range 1200 {
		s := someSource(t, r, []int{1, 2, 3, 1904, 1970, 2000, 9997, 9998, 9999}[round%9])
		probes := append(times(s, 1), first, last)
		for range 10 {
			probes = append(probes, probes[r.Intn(len(probes))]+int64(r.Intn(4000001)-2000000))
		}
		for _, probe := range probes {
			for at := probe - 1; at <= probe+1; at++ {
				if at < first || at > last {
					continue
				}
				want := model(s, 1, at)
				if got, why := At(s, 1, at); why != api.OK || got != want {
					t.Fatalf("of %v at %d it is %v, %d, not %v", s, at, got, why, want)
				}
			}
		}
	}
}

// Promise 17.2: where no era ends, and no rule occurs, nothing changes; and by each name it is the same.
func TestNothingElse(t *testing.T) {
	r := rand.New(rand.NewSource(172))
	sources := []api.Source{read(t, europe)}
	for range 300 {
		sources = append(sources, someSource(t, r, 2000))
	}
	for _, s := range sources {
		l := times(s, 1)
		for i := range l[1:] {
			from, to := max(l[i], utc(t, "0002-01-01 00:00:00")), min(l[i+1], utc(t, "2050-01-01 00:00:00"))
			if from >= to {
				continue
			}
			want, why := At(s, 1, from)
			for _, at := range []int64{from + r.Int63n(to-from), from + r.Int63n(to-from), to - 1} {
				if got, why2 := At(s, 1, at); got != want || why != api.OK || why2 != api.OK {
					t.Fatalf("of %v at %d it is %v, at %d %v", s, from, want, at, got)
				}
			}
			for _, name := range link.Aliases(s, s.Zones[1].Name) {
				if got, why := Named(s, name, from); got != want || why != api.OK {
					t.Fatalf("of %v %s is %v at %d, not %v", s, name, got, from, want)
				}
			}
		}
	}
}

// Promise 17.1: what is handed in is not changed, and may be handed in again.
func TestKeepsSource(t *testing.T) {
	s, want := read(t, europe), read(t, europe)
	at := utc(t, "2026-07-01 12:00:00")
	for range 2 {
		state, why := At(s, 1, at)
		named, why2 := Named(s, "Atlantic/Jan_Mayen", at)
		shown, why3 := Clock(s, "Atlantic/Jan_Mayen", at)
		if show(state) != "7200+ CEST" || named != state || shown != at+7200 || why != api.OK || why2 != api.OK || why3 != api.OK || !source.Same(s, want) {
			t.Errorf("it is %v, %v, %d, of %v", state, named, shown, s)
		}
	}
}

// Promise 17.1: as many rules and eras as there may be.
func TestFull(t *testing.T) {
	s := api.Source{Zones: []api.Zone{{Name: "A"}}}
	for i := range maxRules {
		r := api.Rule{Name: "R", From: 1, To: 9999, Month: 1, On: api.Day{N: 1}, At: api.Moment{Sec: int64(i), Clock: api.ClockUniversal}, Save: int64(i)}
		s.Rules = append(s.Rules, r)
	}
	for i := range maxEras - 1 {
		until := api.Until{Year: 1900 + i, Month: 1, On: api.Day{N: 2}, At: api.Moment{Clock: api.ClockUniversal}}
		s.Zones[0].Eras = append(s.Zones[0].Eras, api.Era{Std: int64(i), Format: "A", Ends: true, Until: until})
	}
	s.Zones[0].Eras = append(s.Zones[0].Eras, api.Era{Std: 100000, Kind: api.EraRules, Rules: "R", Format: "B"})
	mustBe(t, s, 0, "0002-01-01 00:00:00", "0 A")
	mustBe(t, s, 0, "1901-01-01 23:59:59", "1 A")
	mustBe(t, s, 0, "1901-01-02 00:00:00", "2 A")
	mustBe(t, s, 0, "1962-01-01 23:59:59", "62 A")
	mustBe(t, s, 0, "1962-01-02 00:00:00", "104095+ B")
	mustBe(t, s, 0, "2001-01-01 00:00:00", "100000 B")
	mustBe(t, s, 0, "2001-01-01 00:16:39", "100999+ B")
	mustBe(t, s, 0, "2001-01-01 01:08:14", "104094+ B")
	mustBe(t, s, 0, "2001-01-01 01:08:15", "104095+ B")
}
