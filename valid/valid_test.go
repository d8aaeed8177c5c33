package valid

import (
	"fmt"
	"math/rand"
	"slices"
	"strings"
	"testing"

	"solstice/api"
	"solstice/link"
	"solstice/moment"
	"solstice/source"
)

// The limits, as the document tells them.
const (
	maxRules = 4096
	maxZones = 1024
	maxEras  = 64
	maxLinks = 4096
)

// europe is a text of a source that is well.
const europe = `Rule EU 1981 max - Mar lastSun 1:00u 1:00 S
Rule EU 1996 max - Oct lastSun 1:00u 0 -
Rule Unused 2000 only - Feb 30 0 1:00 -
Zone Europe/Berlin 0:53:28 - LMT 1893 Apr
	1:00 1:00 CEST 1945 May 24 2:00
	1:00 EU CE%sT
Zone UTC - - UTC
Link Arctic/Longyearbyen Atlantic/Jan_Mayen
Link Europe/Berlin Arctic/Longyearbyen
Link UTC Etc/UTC
`

// read is the source that a text tells.
func read(t *testing.T, text string) api.Source {
	t.Helper()
	s, f := source.Parse(text)
	if f != (api.Fault{}) {
		t.Fatalf("%q is %v", text, f)
	}
	return s
}

// brief is the beginning of what v looks like.
func brief(v any) string {
	return fmt.Sprintf("%.800s", fmt.Sprint(v))
}

// mustHave tells if a source has other flaws.
func mustHave(t *testing.T, s api.Source, want ...api.Flaw) {
	t.Helper()
	if got := Flaws(s); !slices.Equal(got, want) {
		t.Errorf("the flaws of %s are %s, not %s", brief(s), brief(got), brief(want))
	}
	if right := source.Check(s) == api.OK; Well(s) != (right && len(want) == 0) {
		t.Errorf("%s is well: %t", brief(s), Well(s))
	}
}

// twice, none, order and loop are flaws of a name.
func twice(name string) api.Flaw { return api.Flaw{Why: api.ErrTwice, Name: name} }
func none(name string) api.Flaw  { return api.Flaw{Why: api.ErrNone, Name: name} }
func order(name string) api.Flaw { return api.Flaw{Why: api.ErrOrder, Name: name} }
func loop(name string) api.Flaw  { return api.Flaw{Why: api.ErrLoop, Name: name} }

// Promises 14.1 and 14.2: sources that are well.
func TestWell(t *testing.T) {
	for _, s := range []api.Source{
		read(t, europe), {}, {Rules: []api.Rule{}, Zones: []api.Zone{}, Links: []api.Link{}},
		read(t, "Zone A 0 - UTC"), read(t, "Rule A 1 max - Jan 1 0 0 -\nRule A 1 max - Jan 1 0 0 -"),
		// A rule, a zone and a link are named each for itself.
		read(t, "Rule A 1 max - Jan 1 0 0 -\nZone A 0 A %z\nLink A B\nRule B 1 max - Jan 1 0 0 -"),
		read(t, "Zone A 0 - UTC\nZone a 0 - UTC\nLink a B\nLink B b"),
		// What is not there when it is told of first, is there later.
		read(t, "Link B C\nLink A B\nZone A 0 R %z\nRule R 1 max - Jan 1 0 0 -"),
	} {
		mustHave(t, s)
		if !Well(s) {
			t.Errorf("%v is not well", s)
		}
	}
}

// Promise 14.2: what is not right is not well, though it has no flaw; what has a flaw is not, though it is right.
func TestNotWell(t *testing.T) {
	for _, change := range []func(s *api.Source){
		func(s *api.Source) { s.Rules[2].Letter = "-" },
		func(s *api.Source) { s.Rules[0].From = 0 },
		func(s *api.Source) { s.Rules[2].Name = "1" },
		func(s *api.Source) { s.Zones[0].Name = "1"; s.Links[1].Target = "1" },
		func(s *api.Source) { s.Zones[1].Eras = nil },
		func(s *api.Source) { s.Zones[0].Eras = s.Zones[0].Eras[:2] },
		func(s *api.Source) { s.Zones[0].Eras[0].Ends = false },
		func(s *api.Source) { s.Zones[0].Eras[1].Format = "%" },
		func(s *api.Source) { s.Zones[0].Eras[0].Std = 604801 },
		func(s *api.Source) { s.Links[2].Name = "Etc/UTC.x" },
		func(s *api.Source) { s.Links[2].Name = "" },
		func(s *api.Source) { s.Rules = append(s.Rules, make([]api.Rule, maxRules)...) },
	} {
		s := read(t, europe)
		change(&s)
		if l := Flaws(s); len(l) != 0 || source.Check(s) != api.ErrForm || Well(s) {
			t.Errorf("it is well, or has flaws: %s, %s", brief(l), brief(s))
		}
	}
	for _, text := range []string{
		"Zone A 0 - UTC\nZone A 0 - UTC\n", "Zone A 0 R %z\n", "Zone A 0 - UTC 2000 Feb 30\n0 - UTC\n", "Link A B\n", "Link A A\n",
	} {
		if s := read(t, text); source.Check(s) != api.OK || Well(s) {
			t.Errorf("%q is well, or not right", text)
		}
		if s := read(t, europe+text); source.Check(s) != api.OK || Well(s) {
			t.Errorf("%q is well, or not right", europe+text)
		}
	}
}

// Promise 14.1: names of zones and links that were there ahead, each time.
func TestTwice(t *testing.T) {
	for _, c := range []struct {
		text string
		want []api.Flaw
	}{
		{"Zone A 0 - UTC\nZone A 1 - UTC", []api.Flaw{twice("A")}},
		{"Zone A 0 - UTC\nZone A 0 - UTC\nZone A 0 - UTC", []api.Flaw{twice("A"), twice("A")}},
		{"Zone A 0 - UTC\nLink A A", []api.Flaw{twice("A")}},
		{"Link A A\nZone A 0 - UTC", []api.Flaw{twice("A")}},
		{"Zone A 0 - UTC\nLink A B\nLink A B", []api.Flaw{twice("B")}},
		{"Zone A 0 - UTC\nLink A B\nZone B 0 - UTC\nLink B C", []api.Flaw{twice("B")}},
		{"Zone A 0 - UTC\nZone B 0 - UTC\nLink A C\nZone B 0 - UTC\nLink B C\nZone A 0 - UTC\nLink A A", []api.Flaw{twice("B"), twice("A"), twice("C"), twice("A")}},
		{"Zone A 0 - UTC\nZone a 0 - UTC\nLink a Aa\nLink A aA", nil},
	} {
		mustHave(t, read(t, c.text), c.want...)
	}
	mustHave(t, api.Source{Zones: []api.Zone{{}, {}}, Links: []api.Link{{}}}, twice(""), twice(""))
}

// Promise 14.1: eras whose rules are not there, each one.
func TestRuleless(t *testing.T) {
	for _, c := range []struct {
		text string
		want []api.Flaw
	}{
		{"Zone A 0 R %z", []api.Flaw{none("R")}},
		{"Zone A 0 R %z 2000\n0 R %z 2001\n1 R %z", []api.Flaw{none("R"), none("R"), none("R")}},
		{"Rule R 1 max - Jan 1 0 0 -\nZone A 0 S %z 2000\n0 R %z 2001\n1 Q %z\nZone B 0 R %z\nZone C 0 - %z 1\n0 S %z", []api.Flaw{none("S"), none("Q"), none("S")}},
		{"Rule R 1 max - Jan 1 0 0 -\nZone A 0 r %z", []api.Flaw{none("r")}},
		{"Rule R 1 max - Jan 1 0 0 -\nZone A 0 RR %z\nZone R/ 0 R/ %z", []api.Flaw{none("RR"), none("R/")}},
		{"Zone A 0 A %z\nLink A B\nZone C 0 B %z", []api.Flaw{none("A"), none("B")}},
	} {
		mustHave(t, read(t, c.text), c.want...)
	}
	// What an era of another kind says of rules counts for nothing; an empty name may be that of rules.
	eras := []api.Era{{Rules: "R"}, {Kind: api.EraSave, Rules: "R"}, {Kind: api.EraCount, Rules: "R"}, {Kind: 255, Rules: "R"}, {Kind: api.EraRules}}
	mustHave(t, api.Source{Zones: []api.Zone{{Name: "A", Eras: eras}}}, none(""))
	mustHave(t, api.Source{Rules: []api.Rule{{}}, Zones: []api.Zone{{Name: "A", Eras: eras}}})
}

// Promise 14.1: eras that end at no time, or not behind the last one ahead that has a time.
func TestOrder(t *testing.T) {
	for _, c := range []struct {
		untils string
		times  int
	}{
		{"2000,2001,2002", 0},
		{"1,9999 Dec 31 24:00", 0},
		{"2000 Jan 1 0,2000 Jan 1 0:00:01", 0},
		{"2000 Jan 1 0,2000 Jan 1 0", 1},
		{"2000,2000", 1},
		{"2001,2000", 1},
		{"2000,2000,2000", 2},
		{"2000 Jan 2,2000 Jan 1 24:00", 1},
		{"2000 Jan 2,2000 Jan 1 24:00:01", 0},
		{"2000 Jan 1 0:00:01,2000 Jan 1 0", 1},
		{"2000 Jan 1 -1:00,1999 Dec 31 23:00:00", 1},
		// By whichever clock it is.
		{"2000 Jan 1 1:00u,2000 Jan 1 1:00s", 1},
		{"2000 Jan 1 1:00,2000 Jan 1 2:00u", 0},
		{"2000 Jan 1 2:00s,2000 Jan 1 1:00w", 1},
		// The last one ahead counts, wherever it stands itself.
		{"2002,2000,2001", 1},
		{"2002,2001,2000", 2},
		{"2002,2000,2000", 2},
		{"2000,2002,2001,2001,2003", 2},
		// What has no time is passed over by what is behind.
		{"2000 Feb 30", 1},
		{"2001 Feb 29,2002", 1},
		{"2000,2001 Feb 29,2000", 2},
		{"2000,2001 Feb 29,2001", 1},
		{"2000,2001 Feb 29,2000 Jan 1 0:00:01", 1},
		{"2000 Feb 29,2000 Mar Sun<=31", 0},
		{"2000 Feb 30,2000 Feb 31,2000 Apr 31", 3},
		{"9999 Dec Sun>=31", 1},
		{"1 Jan Sun<=1", 1},
		{"1 Jan Mon<=1,1 Jan Mon>=1", 1},
		{"2000 Feb Mon>=29,2000 Feb lastTue", 1},
		{"2000 Feb lastTue,2000 Feb Mon>=29", 0},
	} {
		var text strings.Builder
		text.WriteString("Zone C 0 - UTC 3000\n0 - UTC\nZone A")
		for _, until := range strings.Split(c.untils, ",") {
			fmt.Fprintln(&text, " 0 - UTC", until)
		}
		text.WriteString("0 - UTC\nZone B 0 - UTC 1000\n0 - UTC\n")
		mustHave(t, read(t, text.String()), slices.Repeat([]api.Flaw{order("A")}, c.times)...)
	}
}

// until is the beginning of a year.
func until(y int) api.Until {
	return api.Until{Year: y, Month: 1, On: api.Day{N: 1}}
}

// Promise 14.1: eras of which it does not matter that they are not right: what does not end counts for nothing, and what ends must have a time.
func TestOrderAny(t *testing.T) {
	far := until(2000)
	far.At.Sec = 604801
	clock := until(2000)
	clock.At.Clock = api.ClockCount
	month := until(2000)
	month.Month = 13
	day := until(2000)
	day.On.Kind = api.DayCount
	for _, c := range []struct {
		eras []api.Era
		want int
	}{
		{[]api.Era{{Ends: true, Until: until(2000)}}, 0},
		{[]api.Era{{Until: until(3000)}, {Ends: true, Until: until(2000)}}, 0},
		{[]api.Era{{Ends: true, Until: until(2000)}, {Until: until(3000)}, {Ends: true, Until: until(2001)}}, 0},
		{[]api.Era{{Ends: true, Until: until(2000)}, {Until: until(1000)}, {Ends: true, Until: until(2000)}}, 1},
		{[]api.Era{{Until: until(0)}, {Until: far}, {}}, 0},
		{[]api.Era{{Ends: true}}, 1},
		{[]api.Era{{Ends: true, Until: until(0)}}, 1},
		{[]api.Era{{Ends: true, Until: until(10000)}}, 1},
		{[]api.Era{{Ends: true, Until: far}, {Ends: true, Until: until(1)}}, 1},
		{[]api.Era{{Ends: true, Until: clock}, {Ends: true, Until: until(1)}}, 1},
		{[]api.Era{{Ends: true, Until: month}, {Ends: true, Until: until(1)}}, 1},
		{[]api.Era{{Ends: true, Until: day}, {Ends: true, Until: until(1)}}, 1},
		{[]api.Era{{Ends: true, Until: until(2000), Kind: api.EraCount, Format: "%"}, {Ends: true, Until: until(1999), Std: 1 << 62}}, 1},
		{nil, 0},
	} {
		s := api.Source{Zones: []api.Zone{{Name: "A", Eras: c.eras}}}
		mustHave(t, s, slices.Repeat([]api.Flaw{order("A")}, c.want)...)
	}
	// Each zone is for itself, with its own name.
	one, two := []api.Era{{Ends: true, Until: until(2000)}}, []api.Era{{Ends: true, Until: until(1000)}, {Ends: true, Until: until(1000)}}
	mustHave(t, api.Source{Zones: []api.Zone{{Name: "A", Eras: one}, {Name: "", Eras: two}, {Name: "B", Eras: one}, {Name: "C", Eras: two}}}, order(""), order("C"))
}

// Promise 14.1: links whose targets lead to no zone, each one, and why.
func TestUnled(t *testing.T) {
	for _, c := range []struct {
		text string
		want []api.Flaw
	}{
		{"Link A B", []api.Flaw{none("B")}},
		{"Link B B", []api.Flaw{loop("B")}},
		{"Link A B\nLink B A", []api.Flaw{loop("B"), loop("A")}},
		{"Link A B\nLink B C\nLink C D\nZone A 0 - UTC", nil},
		{"Link A B\nLink B C\nLink C D", []api.Flaw{none("B"), none("C"), none("D")}},
		{"Link C D\nLink B C\nLink A B", []api.Flaw{none("D"), none("C"), none("B")}},
		{"Link C B\nLink B C\nLink C D\nLink D E\nZone A 0 - UTC\nLink A F\nLink a G", []api.Flaw{loop("B"), loop("C"), loop("D"), loop("E"), none("G")}},
		{"Rule A 1 max - Jan 1 0 0 -\nLink A B", []api.Flaw{none("B")}},
		// What is told is where the Target leads, not the Name.
		{"Zone A 0 - UTC\nLink A B\nLink C B", []api.Flaw{twice("B"), none("B")}},
		{"Zone A 0 - UTC\nLink C B\nLink A B\nLink B D", []api.Flaw{twice("B"), none("B"), none("D")}},
		{"Zone A 0 - UTC\nLink C A\nLink A B", []api.Flaw{twice("A"), none("A")}},
		{"Zone A 0 - UTC\nLink B B\nLink A B\nLink B C", []api.Flaw{twice("B"), loop("B"), loop("C")}},
	} {
		mustHave(t, read(t, c.text), c.want...)
	}
	mustHave(t, api.Source{Links: []api.Link{{}}}, loop(""))
	mustHave(t, api.Source{Links: []api.Link{{Name: "A"}}}, none("A"))
	mustHave(t, api.Source{Links: []api.Link{{Name: "A"}}, Zones: []api.Zone{{}}})
}

// Promise 14.1: flaws of all kinds stand in order.
func TestFlawsInOrder(t *testing.T) {
	s := read(t, `Link Gone L
Zone Z 0 Rz %z 2001
	0 Ry %z 2000
	0 - A
Link M N
Zone Y 0 Rx %z 2000 Feb 30
	0 R %z
Rule R 1 max - Jan 1 0 0 -
Zone Z 0 - A 2000
	0 - A 1000
	0 Rz %z
Link N M
Link Z L
Link N Y
`)
	mustHave(t, s, twice("Z"), twice("L"), twice("Y"), none("Rz"), none("Ry"), none("Rx"), none("Rz"), order("Z"), order("Y"), order("Z"), none("L"), loop("N"), loop("M"), loop("Y"))
}

// model is the flaws of a source, each found for itself, as the document says it.
func model(s api.Source) []api.Flaw {
	var l []api.Flaw
	names := source.Names(s)
	for i, name := range names {
		if slices.Contains(names[:i], name) {
			l = append(l, twice(name))
		}
	}
	for _, z := range s.Zones {
		for _, e := range z.Eras {
			if e.Kind == api.EraRules && len(source.Rules(s, e.Rules)) == 0 {
				l = append(l, none(e.Rules))
			}
		}
	}
	nominal := func(e api.Era) (int64, bool) {
		n, why := moment.Nominal(e.Until.Year, e.Until.Month, e.Until.On, e.Until.At)
		return n, e.Ends && why == api.OK
	}
	for _, z := range s.Zones {
		for i, e := range z.Eras {
			n, has := nominal(e)
			wrong := e.Ends && !has
			for j := i - 1; j >= 0 && has; j-- {
				if ahead, is := nominal(z.Eras[j]); is {
					wrong = n <= ahead
					break
				}
			}
			if wrong {
				l = append(l, order(z.Name))
			}
		}
	}
	for _, k := range s.Links {
		if _, why := link.Zone(s, k.Target); why != api.OK {
			l = append(l, api.Flaw{Why: why, Name: k.Name})
		}
	}
	return l
}

// name is one of some names.
func name(r *rand.Rand, kinds int) string {
	i := r.Intn(kinds)
	return "ABCDEFGHIJKLMNOPQRST"[i : i+1]
}

// some is a source of a few rules, zones and links, with many flaws, or with few.
func some(r *rand.Rand) api.Source {
	var s api.Source
	kinds := 2 + r.Intn(18)
	for range r.Intn(4) {
		s.Rules = append(s.Rules, api.Rule{Name: name(r, kinds), From: 1, To: 9999, Month: 1, On: api.Day{N: 1}})
	}
	for range r.Intn(4) {
		z := api.Zone{Name: name(r, kinds)}
		for range r.Intn(5) {
			z.Eras = append(z.Eras, someEra(r, kinds))
		}
		s.Zones = append(s.Zones, z)
	}
	for range r.Intn(6) {
		s.Links = append(s.Links, api.Link{Target: name(r, kinds), Name: name(r, kinds)})
	}
	return s
}

// someEra is an era that ends, mostly.
func someEra(r *rand.Rand, kinds int) api.Era {
	e := api.Era{Kind: api.EraKind(r.Intn(4)), Rules: name(r, kinds), Format: "UTC", Ends: r.Intn(4) > 0}
	e.Until = api.Until{Year: 1999 + r.Intn(3), Month: 1 + r.Intn(3), On: api.Day{N: 1 + r.Intn(31)}, At: api.Moment{Sec: int64(r.Intn(3)-1) * 86400, Clock: api.ClockKind(r.Intn(3))}}
	switch r.Intn(12) {
	case 0:
		e.Until.Year = 10000 * r.Intn(2)
	case 1:
		e.Until.Month = 13 * r.Intn(2)
	case 2:
		e.Until.On = api.Day{Kind: api.DayLast, Dow: r.Intn(8)}
	case 3:
		e.Until.At.Clock = 3
	}
	return e
}

// Promises 14.1 and 14.2: against a second way of finding flaws, in any sources.
func TestModel(t *testing.T) {
	r := rand.New(rand.NewSource(14))
	times := map[api.Errno]int{}
	for range 20000 {
		s := some(r)
		want := model(s)
		mustHave(t, s, want...)
		for _, flaw := range want {
			times[flaw.Why]++
		}
		if len(want) == 0 {
			times[api.OK]++
		}
	}
	for _, why := range []api.Errno{api.OK, api.ErrTwice, api.ErrNone, api.ErrOrder, api.ErrLoop} {
		if times[why] < 500 {
			t.Errorf("%d was there %d times alone", why, times[why])
		}
	}
}

// flawless is a source that is well, of some rules, zones and links.
func flawless(r *rand.Rand) api.Source {
	var s api.Source
	for i := range r.Intn(4) {
		s.Rules = append(s.Rules, api.Rule{Name: fmt.Sprintf("R%d", r.Intn(i+1)), From: 1, To: 9999, Month: 1, On: api.Day{N: 1}})
	}
	for i := range r.Intn(4) {
		s.Zones = append(s.Zones, zone(r, s.Rules, fmt.Sprintf("Z%d", i)))
	}
	names := source.Names(s)
	for i := range r.Intn(6) {
		if len(names) > 0 {
			s.Links = append(s.Links, api.Link{Target: names[r.Intn(len(names))], Name: fmt.Sprintf("L%d", i)})
			names = source.Names(s)
		}
	}
	r.Shuffle(len(s.Links), func(i, j int) { s.Links[i], s.Links[j] = s.Links[j], s.Links[i] })
	return s
}

// zone is a zone that has no flaw beside the rules of l.
func zone(r *rand.Rand, l []api.Rule, name string) api.Zone {
	z := api.Zone{Name: name}
	n := 1 + r.Intn(4)
	for i := range n {
		e := api.Era{Std: int64(3600 * r.Intn(5)), Format: "%z"}
		if len(l) > 0 && r.Intn(2) == 0 {
			e.Kind, e.Rules = api.EraRules, l[r.Intn(len(l))].Name
		}
		if i < n-1 {
			e.Ends, e.Until = true, until(1900+i)
		}
		z.Eras = append(z.Eras, e)
	}
	return z
}

// Promise 14.3: a source without flaws is without them with a rule, or a zone, of a new name more, wherever it is put.
func TestEachForItself(t *testing.T) {
	r := rand.New(rand.NewSource(143))
	sources := []api.Source{{}, read(t, europe)}
	for range 2000 {
		sources = append(sources, flawless(r))
	}
	for _, s := range sources {
		mustHave(t, s)
		rule := api.Rule{Name: pick(r, "New", "Z0", "L0", "Europe/Berlin"), From: 1 + r.Intn(9999), To: 9999, Month: 2, On: api.Day{N: 30}}
		more := s
		more.Rules = slices.Insert(slices.Clone(s.Rules), r.Intn(len(s.Rules)+1), rule)
		mustHave(t, more)
		if !Well(more) {
			t.Errorf("%v is not well", more)
		}
		more.Zones = slices.Insert(slices.Clone(s.Zones), r.Intn(len(s.Zones)+1), zone(r, more.Rules, pick(r, "New", "R0", "z0", "EU")))
		mustHave(t, more)
		if !Well(more) {
			t.Errorf("%v is not well", more)
		}
		// A rule that is not right is no flaw, but it is not well.
		more.Rules[0].Month = 13
		mustHave(t, more)
	}
}

// pick is one of l.
func pick(r *rand.Rand, l ...string) string {
	return l[r.Intn(len(l))]
}

// Promises 14.1 and 14.2: what is handed in is not changed, and what is answered is not shared.
func TestKeepsSource(t *testing.T) {
	const text = europe + "Zone UTC 0 R %z 2000 Feb 30\n 0 - UTC\nLink a a\n"
	s, want := read(t, text), read(t, text)
	l := Flaws(s)
	again := slices.Clone(l)
	clear(l)
	_ = append(l, api.Flaw{})
	Well(s)
	if !source.Same(s, want) || !slices.Equal(Flaws(s), again) || len(again) != 4 {
		t.Errorf("it is %v, with the flaws %v", s, again)
	}
}

// full is a source that is well, with as many of all as there may be.
func full() api.Source {
	var s api.Source
	for i := range maxRules {
		s.Rules = append(s.Rules, api.Rule{Name: fmt.Sprintf("R%d", i), From: 1, To: 9999, Month: 1, On: api.Day{N: 1}})
	}
	for i := range maxZones {
		z := api.Zone{Name: fmt.Sprintf("Z%d", i)}
		for j := range maxEras {
			z.Eras = append(z.Eras, api.Era{Kind: api.EraRules, Rules: fmt.Sprintf("R%d", (i*maxEras+j)%maxRules), Format: "%z", Ends: true, Until: until(1900 + j)})
		}
		last := &z.Eras[maxEras-1]
		last.Ends, last.Until = false, api.Until{}
		s.Zones = append(s.Zones, z)
	}
	for i := range maxLinks {
		s.Links = append(s.Links, api.Link{Target: fmt.Sprintf("L%d", i+1), Name: fmt.Sprintf("L%d", i)})
	}
	s.Links[maxLinks-1].Target = "Z1023"
	return s
}

// Promises 14.1 and 14.2: as much of all as there may be.
func TestFull(t *testing.T) {
	s := full()
	mustHave(t, s)
	if !Well(s) {
		t.Error("what is full is not well")
	}
	s.Links = append(s.Links, api.Link{Target: "Z0", Name: "More"})
	mustHave(t, s)
	if Well(s) {
		t.Error("what has a link too many is well")
	}
	s = full()
	s.Links[maxLinks-1].Target = "L0"
	var want []api.Flaw
	for _, k := range s.Links {
		want = append(want, loop(k.Name))
	}
	mustHave(t, s, want...)
	s.Links[maxLinks-1].Target = "Gone"
	for i := range want {
		want[i].Why = api.ErrNone
	}
	mustHave(t, s, want...)
	s = full()
	s.Rules[4095].Name, s.Zones[1023].Eras[0].Rules = "R4096", "R4096"
	s.Zones[7].Name = "L4095"
	mustHave(t, s, append([]api.Flaw{twice("L4095")}, slices.Repeat([]api.Flaw{none("R4095")}, maxZones*maxEras/maxRules)...)...)
}

// Promise 14.1: far more than there may be, of flaws as well.
func TestMany(t *testing.T) {
	const n = 100000
	var s api.Source
	var want []api.Flaw
	for i := range n {
		s.Links = append(s.Links, api.Link{Target: fmt.Sprintf("T%d", i), Name: fmt.Sprintf("L%d", i)})
		want = append(want, none(s.Links[i].Name))
	}
	mustHave(t, s, want...)
	for i := range n {
		s.Links[i].Target = fmt.Sprintf("L%d", i^1)
		want[i].Why = api.ErrLoop
	}
	mustHave(t, s, want...)
	s.Zones = []api.Zone{{Name: "Z"}}
	for i := range n {
		s.Links[i].Target = fmt.Sprintf("L%d", i+1)
		s.Zones[0].Eras = append(s.Zones[0].Eras, api.Era{Kind: api.EraRules, Rules: "R"})
		s.Rules = append(s.Rules, api.Rule{Name: fmt.Sprintf("R%d", i)})
		want[i] = none("R")
	}
	s.Links[n-1].Target = "Z"
	mustHave(t, s, want...)
	s.Rules[n-1].Name = "R"
	mustHave(t, s)
}
