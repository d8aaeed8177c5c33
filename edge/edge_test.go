package edge

import (
	"math"
	"math/rand"
	"slices"
	"strings"
	"testing"
	"time"

	"solstice/api"
	"solstice/occur"
	"solstice/rule"
	"solstice/source"
	"solstice/valid"
)

// The limits, as the document tells them.
const (
	maxRules = 4096
	maxEras  = 64
)

// berlin is a source with zones whose eras are of all kinds, and end by all clocks.
const berlin = `Rule EU 1977 1980 - Apr Sun>=1 1:00u 1:00 S
Rule EU 1977 only - Sep lastSun 1:00u 0 -
Rule EU 1978 only - Oct 1 1:00u 0 -
Rule EU 1979 1995 - Sep lastSun 1:00u 0 -
Rule EU 1981 max - Mar lastSun 1:00u 1:00 S
Rule EU 1996 max - Oct lastSun 1:00u 0 -
Rule Other 1 max - Jan 1 0 0:20 -
Rule Germany 1946 only - Apr 14 2:00s 1:00 S
Rule Germany 1946 only - Oct 7 2:00s 0 -
Rule Germany 1947 only - Apr 6 3:00s 1:00 S
Rule Germany 1947 only - May 11 2:00s 2:00 M
Zone UTC 0 - UTC
Zone Europe/Berlin 0:53:28 - LMT 1893 Apr
	1:00 1:00 CEST 1945 May 24 2:00
	1:00 Germany CE%sT 1947 Jun 1 2:00
	1:00 Germany CE%sT 1980 Apr 6 2:00s
	1:00 EU CE%sT 1990 Jul 1 2:00
	-2:00 EU %z 1991 Jul 1 2:00u
	-2:00 -0:30 %z 1992 Jul 1 2:00s
	2:00 -0:30 %z 1993 Jul 1 2:00
	1:00 EU CE%sT
Link Europe/Berlin Arctic/Longyearbyen
`

// read is the source that a text tells.
func read(t *testing.T, text string) api.Source {
	t.Helper()
	s, f := source.Parse(text)
	if f != (api.Fault{}) {
		t.Fatalf("%q is %v", text, f)
	}
	return s
}

// utc is the seconds up to a time, by the library.
func utc(t *testing.T, text string) int64 {
	t.Helper()
	at, err := time.Parse(time.DateTime, text)
	if err != nil {
		t.Fatal(err)
	}
	return at.Unix()
}

// mustEnd tells if the eras of a zone end otherwise.
func mustEnd(t *testing.T, s api.Source, z int, want ...string) {
	t.Helper()
	ends, why := Ends(s, z)
	if why != api.OK {
		t.Errorf("the ends of %v are %d", s.Zones, why)
	}
	var got []string
	for _, end := range ends {
		got = append(got, time.Unix(end, 0).UTC().Format(time.DateTime))
	}
	if !slices.Equal(got, want) {
		t.Errorf("the eras of the zone %d end\n%s\nnot\n%s", z, strings.Join(got, "\n"), strings.Join(want, "\n"))
	}
}

// Promise 16.1: what is saved in an era, of each kind.
func TestSaved(t *testing.T) {
	s := read(t, berlin)
	eu := api.Era{Std: 3600, Kind: api.EraRules, Rules: "EU", Format: "CE%sT"}
	for text, want := range map[string]int64{
		"0001-01-01 00:00:00": 0, "1977-04-03 01:00:00": 0,
		"1977-04-03 01:00:01": 3600, "1977-09-25 01:00:00": 3600,
		"1977-09-25 01:00:01": 0, "1990-01-01 00:00:00": 0, "1990-07-01 00:00:00": 3600,
		"2026-03-29 01:00:00": 0, "2026-03-29 01:00:01": 3600, "2026-10-25 01:00:00": 3600, "2026-10-25 01:00:01": 0,
	} {
		if got := Saved(s, eu, utc(t, text)); got != want {
			t.Errorf("just ahead of %s %d is saved, not %d", text, got, want)
		}
	}
	noon := utc(t, "1990-07-01 12:00:00")
	for _, c := range []struct {
		e    api.Era
		want int64
	}{
		{api.Era{}, 0},
		{api.Era{Std: 3600, Format: "CET"}, 0},
		{api.Era{Kind: api.EraSave, Save: 3600}, 3600},
		{api.Era{Kind: api.EraSave, Save: -1800}, -1800},
		{api.Era{Kind: api.EraSave}, 0},
		{api.Era{Kind: api.EraRules, Rules: "Other"}, 1200},
		{api.Era{Kind: api.EraRules, Rules: "Germany"}, 7200},
		{api.Era{Kind: api.EraRules, Rules: "None"}, 0},
		{api.Era{Kind: api.EraRules, Rules: "eu"}, 0},
		{api.Era{Kind: api.EraRules}, 0},
		// What another kind would need counts for nothing; what is not right is taken as it is.
		{api.Era{Kind: api.EraPlain, Save: 3600, Rules: "EU"}, 0},
		{api.Era{Kind: api.EraSave, Save: 1800, Rules: "EU"}, 1800},
		{api.Era{Kind: api.EraRules, Save: 1800, Rules: "EU"}, 3600},
		{api.Era{Kind: api.EraSave, Save: 1 << 62, Std: 1 << 62, Format: "%"}, 1 << 62},
		{api.Era{Kind: api.EraSave, Save: math.MinInt64}, math.MinInt64},
		{api.Era{Kind: api.EraCount, Save: 3600, Rules: "EU"}, 0},
		{api.Era{Kind: api.EraCount + 1, Save: 3600, Rules: "EU"}, 0},
		{api.Era{Kind: 255, Save: 3600, Rules: "EU"}, 0},
	} {
		if got := Saved(s, c.e, noon); got != c.want {
			t.Errorf("in %v %d is saved, not %d", c.e, got, c.want)
		}
	}
}

// Promise 16.1: what is saved is told of any source, and at any time.
func TestSavedAny(t *testing.T) {
	eu := api.Era{Kind: api.EraRules, Rules: "EU"}
	s := read(t, berlin)
	for nominal, want := range map[int64]int64{math.MinInt64: 0, -1 << 40: 0, 0: 0, 1 << 40: 0, math.MaxInt64: 0} {
		if got := Saved(s, eu, nominal); got != want {
			t.Errorf("just ahead of %d %d is saved", nominal, got)
		}
		if got := Saved(api.Source{}, eu, nominal); got != 0 {
			t.Errorf("of nothing %d is saved", got)
		}
	}
	s.Rules = append(s.Rules, read(t, "Rule EU 9999 only - Dec 31 168:00 0:10 -").Rules...)
	if got := Saved(s, eu, math.MaxInt64); got != 600 {
		t.Errorf("at last %d is saved", got)
	}
	// It need not be well; but of rules that are not right nothing is saved, whichever one is not.
	s.Zones = append(s.Zones, api.Zone{}, s.Zones[0])
	s.Links = append(s.Links, api.Link{})
	s.Rules[6].Month = 13
	noon := utc(t, "1990-07-01 12:00:00")
	if got := Saved(s, eu, noon); got != 3600 {
		t.Errorf("%d is saved", got)
	}
	s.Rules[0].Month = 13
	if got := Saved(s, eu, noon); got != 0 {
		t.Errorf("of wrong rules %d is saved", got)
	}
}

// Promises 16.1 and 16.3: when eras end: by each clock, with something saved, or nothing.
func TestEnds(t *testing.T) {
	s := read(t, berlin)
	mustEnd(t, s, 0)
	mustEnd(t, s, 1,
		"1893-03-31 23:06:32", // plain, by the wall's clock
		"1945-05-24 00:00:00", // with a save of its own
		"1947-05-31 23:00:00", // by rules that save two hours
		"1980-04-06 01:00:00", // by the standard clock
		"1990-07-01 00:00:00", // by rules that save an hour
		"1991-07-01 02:00:00", // by the universal clock
		"1992-07-01 04:00:00", // by the standard clock, though something is saved
		"1993-07-01 00:30:00", // less than nothing is saved
	)
	mustEnd(t, read(t, "Zone A 0 - A"), 0)
	mustEnd(t, read(t, "Zone B 0 - B 2000\n0 - B\nZone A 1 - A 2000\n1 - A 2001\n1 - A"), 1, "1999-12-31 23:00:00", "2000-12-31 23:00:00")
	mustEnd(t, read(t, "Zone A 168:00 168:00 A 1\n-168:00 -168:00 A 9999 Dec 31 168:00\n0 - A"), 0, "0000-12-18 00:00:00", "10000-01-21 00:00:00")
}

// Promises 16.1 and 16.3: what is saved just ahead of an end, by its nominal time, whatever the clocks are.
func TestEndsBesideRules(t *testing.T) {
	for _, c := range []struct{ rules, until, want string }{
		// What occurs at the time itself is not yet saved, what is a second ahead of it is.
		{"Rule R 2000 only - Jul 1 2:00 1:00 S", "2000 Jul 1 2:00", "2000-07-01 00:00:00"},
		{"Rule R 2000 only - Jul 1 1:59:59 1:00 S", "2000 Jul 1 2:00", "2000-06-30 23:00:00"},
		{"Rule R 2000 only - Jul 1 2:00u 1:00 S", "2000 Jul 1 2:00", "2000-07-01 00:00:00"},
		{"Rule R 2000 only - Jul 1 1:59:59u 1:00 S", "2000 Jul 1 2:00", "2000-06-30 23:00:00"},
		{"Rule R 2000 only - Jul 1 1:59:59 1:00 S", "2000 Jul 1 2:00s", "2000-07-01 00:00:00"},
		{"Rule R 2000 only - Jul 1 1:59:59 1:00 S", "2000 Jul 1 2:00u", "2000-07-01 02:00:00"},
		{"Rule R 2000 only - Jul 1 0 1:00 S\nRule R 2000 only - Jul 1 0 0:30 H", "2000 Jul 1 2:00", "2000-06-30 23:30:00"},
		{"Rule R 2000 only - Jul 1 0 0:30 H\nRule R 2000 only - Jul 1 0 1:00 S", "2000 Jul 1 2:00", "2000-06-30 23:00:00"},
		// It may be of years ago, or of the next year.
		{"Rule R 1 only - Jul 1 0 1:00 S", "2000 Jul 1 2:00", "2000-06-30 23:00:00"},
		{"Rule R 2001 only - Jan 1 -24:00 1:00 S", "2000 Dec 31 2:00", "2000-12-30 23:00:00"},
		{"Rule R 2001 max - Jul 1 0 1:00 S", "2000 Jul 1 2:00", "2000-07-01 00:00:00"},
		{"Rule R 1 max - Feb 30 0 1:00 S", "2000 Jul 1 2:00", "2000-07-01 00:00:00"},
		{"Rule Q 1 max - Jan 1 0 1:00 S\nRule R 2001 max - Jul 1 0 1:00 S", "2000 Jul 1 2:00", "2000-07-01 00:00:00"},
		// Save may be below nothing.
		{"Rule R 1 max - Jan 1 0 -1:00 S", "2000 Jul 1 2:00", "2000-07-01 01:00:00"},
	} {
		mustEnd(t, read(t, c.rules+"\nZone A 2:00 R %z "+c.until+"\n0 - A\n"), 0, c.want)
	}
}

// Promise 16.1: of a source that is not well no era ends; of one that is, none of a zone that is not there.
func TestWrongSources(t *testing.T) {
	for _, change := range []func(s *api.Source){
		func(s *api.Source) { s.Rules[6].Letter = "-" },
		func(s *api.Source) { s.Rules[0].From = 0 },
		func(s *api.Source) { s.Zones[0].Eras = nil },
		func(s *api.Source) { s.Zones[1].Eras = s.Zones[1].Eras[:3] },
		func(s *api.Source) { s.Zones[1].Eras[8].Ends = true },
		func(s *api.Source) { s.Zones[1].Eras[0].Ends = false },
		func(s *api.Source) { s.Zones[1].Eras[0].Std = 604801 },
		func(s *api.Source) { s.Zones[1].Eras[1].Kind = api.EraCount },
		func(s *api.Source) { s.Zones[1].Name = "" },
		func(s *api.Source) { s.Links[0].Name = "x y" },
		// It is right, but has a flaw.
		func(s *api.Source) { s.Zones[1].Name = "UTC" },
		func(s *api.Source) { s.Zones[1].Eras[2].Rules = "None" },
		func(s *api.Source) { s.Zones[1].Eras[0].Until.Year = 1946 },
		func(s *api.Source) { s.Zones[1].Eras[1].Until.On.N, s.Zones[1].Eras[1].Until.Month = 31, 6 },
		func(s *api.Source) { s.Links[0].Target = "None" },
		func(s *api.Source) { s.Links[0].Target = s.Links[0].Name },
	} {
		s := read(t, berlin)
		change(&s)
		for _, z := range []int{0, 1, -1, 2, 1000} {
			if ends, why := Ends(s, z); len(ends) != 0 || why != api.ErrForm {
				t.Errorf("of %v it ends %v, %d", s, ends, why)
			}
		}
	}
	for _, z := range []int{-1, -2, 2, 3, 1 << 40, math.MinInt, math.MaxInt} {
		if ends, why := Ends(read(t, berlin), z); len(ends) != 0 || why != api.ErrNone {
			t.Errorf("the zone %d ends %v, %d", z, ends, why)
		}
	}
	for _, z := range []int{-1, 0, 1} {
		if ends, why := Ends(api.Source{}, z); len(ends) != 0 || why != api.ErrNone {
			t.Errorf("of nothing the zone %d ends %v, %d", z, ends, why)
		}
	}
}

// Promise 16.2: the first one that ends later holds; the one behind all, if none does.
func TestHolds(t *testing.T) {
	rising := []int64{-100, 0, 5, 1000}
	for at, want := range map[int64]int{
		math.MinInt64: 0, -101: 0, -100: 1, -1: 1, 0: 2, 4: 2, 5: 3, 999: 3, 1000: 4, 1001: 4, math.MaxInt64: 4,
	} {
		if got := Holds(rising, at); got != want {
			t.Errorf("at %d %d holds, not %d", at, got, want)
		}
	}
	// They need not rise: one that ends ahead of what is ahead of it never holds.
	for _, c := range []struct {
		ends []int64
		at   int64
		want int
	}{
		{nil, 0, 0}, {[]int64{}, math.MinInt64, 0}, {nil, math.MaxInt64, 0},
		{[]int64{10, 5, 20}, 4, 0}, {[]int64{10, 5, 20}, 5, 0}, {[]int64{10, 5, 20}, 9, 0}, {[]int64{10, 5, 20}, 10, 2}, {[]int64{10, 5, 20}, 20, 3},
		{[]int64{5, 20, 10}, 12, 1}, {[]int64{5, 20, 10}, 20, 3}, {[]int64{30, 20, 10, 0}, 15, 0}, {[]int64{0, 10, 20, 30, 1, 2}, 9, 1},
		{[]int64{1, 2, 40, 3, 4, 5, 6}, 7, 2}, {[]int64{1, 2, 3, 4, 5, 6, 40}, 7, 6},
		{[]int64{7, 7, 7}, 6, 0}, {[]int64{7, 7, 7}, 7, 3},
		{[]int64{math.MaxInt64}, math.MaxInt64, 1}, {[]int64{math.MaxInt64}, math.MaxInt64 - 1, 0}, {[]int64{math.MinInt64}, math.MinInt64, 1},
	} {
		if got := Holds(c.ends, c.at); got != c.want {
			t.Errorf("of %v at %d %d holds, not %d", c.ends, c.at, got, c.want)
		}
	}
}

// Promises 16.1 and 16.2: eras whose ends do not rise, though their nominal times do.
func TestEndsFall(t *testing.T) {
	s := read(t, "Zone A -12:00 - A 2000 Jan 1\n12:00 - A 2000 Jan 1 12:00\n0 - A")
	mustEnd(t, s, 0, "2000-01-01 12:00:00", "2000-01-01 00:00:00")
	ends, _ := Ends(s, 0)
	for text, want := range map[string]int{"1999-12-31 23:59:59": 0, "2000-01-01 00:00:00": 0, "2000-01-01 11:59:59": 0, "2000-01-01 12:00:00": 2} {
		if got := Holds(ends, utc(t, text)); got != want {
			t.Errorf("at %s %d holds, not %d", text, got, want)
		}
	}
}

// someZone is a zone of some eras, of all kinds, that end by all clocks, one year behind the other.
func someZone(r *rand.Rand) api.Zone {
	z := api.Zone{Name: "A"}
	for i := range 1 + r.Intn(6) {
		e := api.Era{Std: int64(r.Intn(200001) - 100000), Kind: api.EraKind(r.Intn(3)), Format: "%z", Ends: true}
		switch e.Kind {
		case api.EraSave:
			e.Save = int64(r.Intn(20001) - 10000)
		case api.EraRules:
			e.Rules = string(rune('R' + r.Intn(2)))
		}
		e.Until = api.Until{Year: 1990 + i, Month: 1 + r.Intn(12), On: api.Day{Kind: api.DayFrom, N: 1 + r.Intn(28), Dow: r.Intn(7)}}
		e.Until.At = api.Moment{Sec: int64(r.Intn(172801) - 86400), Clock: api.ClockKind(r.Intn(3))}
		z.Eras = append(z.Eras, e)
	}
	last := &z.Eras[len(z.Eras)-1]
	last.Ends, last.Until = false, api.Until{}
	return z
}

// someRules is some rules, of two names.
func someRules(r *rand.Rand) []api.Rule {
	l := []api.Rule{{Name: "R", From: 1985, To: 1985, Month: 1, On: api.Day{N: 1}}, {Name: "S", From: 1985, To: 1985, Month: 1, On: api.Day{N: 1}}}
	for range r.Intn(8) {
		one := api.Rule{Name: string(rune('R' + r.Intn(2))), From: 1985 + r.Intn(12), Month: 1 + r.Intn(12), On: api.Day{N: 1 + r.Intn(31)}, Save: int64(r.Intn(7200))}
		one.To = one.From + r.Intn(8)
		one.At = api.Moment{Sec: int64(r.Intn(172801) - 86400), Clock: api.ClockKind(r.Intn(3))}
		l = append(l, one)
	}
	return l
}

// saves is what the last one of all occurrences of the rules saves that is ahead of a time, told from all of them.
func saves(s api.Source, name string, nominal int64) int64 {
	save := int64(0)
	l, _ := occur.Of(source.Rules(s, name), 1, 9999)
	for _, o := range l {
		if o.Nominal < nominal {
			save = o.Save
		}
	}
	return save
}

// ahead is how much ahead of its nominal time an era ends, by the clock of its end.
func ahead(s api.Source, e api.Era, nominal int64) int64 {
	saved := e.Save
	if e.Kind == api.EraRules {
		saved = saves(s, e.Rules, nominal)
	}
	return []int64{e.Std + saved, e.Std, 0}[e.Until.At.Clock]
}

// Promises 16.1 and 16.3: each era ends as far ahead of its nominal time as its clock says, in any source that is well.
func TestAsItIsWritten(t *testing.T) {
	r := rand.New(rand.NewSource(16))
	for range 5000 {
		s := api.Source{Rules: someRules(r), Zones: []api.Zone{{Name: "Z", Eras: []api.Era{{Format: "Z"}}}, someZone(r)}}
		if !valid.Well(s) {
			t.Fatalf("%v is not well", s)
		}
		ends, why := Ends(s, 1)
		if why != api.OK || len(ends) != len(s.Zones[1].Eras)-1 {
			t.Fatalf("of %v it ends %v, %d", s, ends, why)
		}
		for i, end := range ends {
			e := s.Zones[1].Eras[i]
			// The day is the first one of its day of the week from N on.
			day := time.Date(e.Until.Year, time.Month(e.Until.Month), e.Until.On.N, 0, 0, 0, 0, time.UTC)
			for int(day.Weekday()) != e.Until.On.Dow {
				day = day.AddDate(0, 0, 1)
			}
			nominal := day.Unix() + e.Until.At.Sec
			if end != nominal-ahead(s, e, nominal) {
				t.Fatalf("of %v the era %d ends %d, not %d ahead of %d", s, i, end, ahead(s, e, nominal), nominal)
			}
			if e.Kind == api.EraRules && Saved(s, e, nominal) != saves(s, e.Rules, nominal) {
				t.Fatalf("of %v in the era %d %d is saved", s, i, Saved(s, e, nominal))
			}
		}
	}
}

// Promises 16.1 and 16.2: what is handed in is not changed, and what is answered is not shared.
func TestKeepsSource(t *testing.T) {
	s, want := read(t, berlin), read(t, berlin)
	ends, _ := Ends(s, 1)
	again := slices.Clone(ends)
	Holds(ends, 0)
	Saved(s, s.Zones[1].Eras[4], 0)
	if !slices.Equal(ends, again) {
		t.Errorf("they are %v", ends)
	}
	clear(ends)
	_ = append(ends, 1)
	if got, _ := Ends(s, 1); !source.Same(s, want) || !slices.Equal(got, again) || len(again) != 8 {
		t.Errorf("it is %v, and ends %v", s, got)
	}
}

// Promise 16.1: as many rules and eras as there may be.
func TestFull(t *testing.T) {
	s := api.Source{Zones: []api.Zone{{Name: "A"}}}
	for i := range maxRules {
		r := api.Rule{Name: "R", From: 1900, To: 9999, Month: 1, On: api.Day{N: 1}, At: api.Moment{Sec: int64(i)}, Save: int64(i)}
		s.Rules = append(s.Rules, r)
	}
	for i := range maxEras - 1 {
		until := api.Until{Year: 1900 + i, Month: 1, On: api.Day{N: 1}, At: api.Moment{Sec: int64(i)}}
		s.Zones[0].Eras = append(s.Zones[0].Eras, api.Era{Kind: api.EraRules, Rules: "R", Format: "%z", Ends: true, Until: until})
	}
	s.Zones[0].Eras = append(s.Zones[0].Eras, api.Era{Format: "A"})
	if rule.Check(s.Rules[maxRules-1]) != api.OK {
		t.Fatal("a rule is not right")
	}
	ends, why := Ends(s, 0)
	if len(ends) != maxEras-1 || why != api.OK {
		t.Fatalf("there are %d, %d", len(ends), why)
	}
	for i, end := range ends {
		// The rule of the second ahead is the last one; ahead of the first era's end there is none.
		want := time.Date(1900+i, 1, 1, 0, 0, i, 0, time.UTC).Unix() - int64(max(0, i-1))
		if end != want {
			t.Errorf("the era %d ends %d, not %d", i, end, want)
		}
	}
}
