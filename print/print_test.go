package print

import (
	"fmt"
	"slices"
	"strings"
	"testing"

	"solstice/api"
	"solstice/era"
	"solstice/rule"
	"solstice/source"
)

// The limits, as the document tells them.
const (
	maxRules = 4096
	maxZones = 1024
	maxEras  = 64
	maxLinks = 4096
	maxText  = 1 << 20
)

// sample is a text as it is written.
const sample = `Rule EU 1981 max - Mar lastSun 1:00u 1:00 S
Rule EU 1996 9998 - Oct lastSun 1:00u 0:00 -
Rule a+b-/_0 1 only - Jan 1 -0:20:05s -1:00 -00
Rule AN 2001 2007 - Feb Sun>=8 24:00 0:30 --
Rule AN 9999 only - Dec Sat<=31 168:00 0:00 +
Zone Europe/Berlin 0:53:28 - LMT 1893 Apr
	1:00 EU CE%sT 1945 May 24 2:00
	1:00 1:00 CEST 1946 Jan 1 2:00s
	1:00 EU CE%sT
Zone UTC 0:00 - UTC
Zone A -3:30 -0:20 - 1
	-168:00 0:00 %z 9999 Dec lastMon
	168:00 _ GMT/BST
Link Europe/Berlin Europe/Busingen
Link UTC Etc/UTC
Link a b
Link b a
`

// europe is the source that sample tells.
func europe(t *testing.T) api.Source {
	t.Helper()
	s, f := source.Parse(sample)
	if f != (api.Fault{}) {
		t.Fatalf("the sample is %v", f)
	}
	return s
}

// lines is the lines of a text.
func lines(text string) []string {
	return strings.Split(strings.TrimSuffix(text, "\n"), "\n")
}

// Promise 12.1: each rule, each zone, and each link, as lines.
func TestLines(t *testing.T) {
	s, want := europe(t), lines(sample)
	var got []string
	for _, r := range s.Rules {
		line, why := Rule(r)
		if why != api.OK {
			t.Errorf("Rule(%v) is %d", r, why)
		}
		got = append(got, line)
	}
	for _, z := range s.Zones {
		l, why := Zone(z)
		if why != api.OK || len(l) != len(z.Eras) {
			t.Errorf("Zone(%v) is %q, %d", z, l, why)
		}
		got = append(got, l...)
	}
	for _, l := range s.Links {
		line, why := Link(l)
		if why != api.OK {
			t.Errorf("Link(%v) is %d", l, why)
		}
		got = append(got, line)
	}
	if !slices.Equal(got, want) {
		t.Errorf("the lines are %q, not %q", got, want)
	}
}

// Promise 12.1: lines that are told by name.
func TestNamed(t *testing.T) {
	r := api.Rule{Name: "US", From: 1967, To: 2006, Month: 10, On: api.Day{Kind: api.DayLast}, At: api.Moment{Sec: 7200}, Letter: "S"}
	if got, why := Rule(r); got != "Rule US 1967 2006 - Oct lastSun 2:00 0:00 S" || why != api.OK {
		t.Errorf("it is %q, %d", got, why)
	}
	z := api.Zone{Name: "Rule", Eras: []api.Era{
		{Std: -18000, Format: "LMT", Ends: true, Until: api.Until{Year: 1883, Month: 11, On: api.Day{N: 18}, At: api.Moment{Sec: 61200, Clock: api.ClockUniversal}}},
		{Kind: api.EraSave, Save: 3600, Format: "%z", Ends: true, Until: api.Until{Year: 1884, Month: 1, On: api.Day{N: 1}}},
		{Std: -18000, Kind: api.EraRules, Rules: "US", Format: "E%sT"},
	}}
	if got, why := Zone(z); !slices.Equal(got, []string{"Zone Rule -5:00 - LMT 1883 Nov 18 17:00u", "\t0:00 1:00 %z 1884", "\t-5:00 US E%sT"}) || why != api.OK {
		t.Errorf("it is %q, %d", got, why)
	}
	if got, why := Link(api.Link{Target: "Zone", Name: "Link"}); got != "Link Zone Link" || why != api.OK {
		t.Errorf("it is %q, %d", got, why)
	}
}

// Promise 12.1: all lines as a text: rules, zones and links in order, each with a line feed.
func TestText(t *testing.T) {
	s := europe(t)
	if got, why := Text(s); got != sample || why != api.OK {
		t.Errorf("it is %q, %d", got, why)
	}
	all := lines(sample)
	for _, c := range []struct {
		s    api.Source
		want []string
	}{
		{api.Source{}, nil},
		{api.Source{Rules: []api.Rule{}, Zones: []api.Zone{}, Links: []api.Link{}}, nil},
		{api.Source{Rules: s.Rules}, all[:5]},
		{api.Source{Zones: s.Zones}, all[5:13]},
		{api.Source{Links: s.Links}, all[13:]},
		{api.Source{Zones: s.Zones[1:2], Links: s.Links[3:]}, []string{all[9], all[16]}},
		{api.Source{Rules: s.Rules[4:], Links: s.Links[:1]}, []string{all[4], all[13]}},
		{api.Source{Rules: []api.Rule{s.Rules[1], s.Rules[0], s.Rules[1]}, Links: []api.Link{s.Links[2], s.Links[1]}}, []string{all[1], all[0], all[1], all[15], all[14]}},
		{api.Source{Zones: []api.Zone{s.Zones[1], s.Zones[1]}}, []string{all[9], all[9]}},
	} {
		want := ""
		for _, line := range c.want {
			want += line + "\n"
		}
		if got, why := Text(c.s); got != want || why != api.OK {
			t.Errorf("Text(%v) is %q, %d, not %q", c.s, got, why, want)
		}
	}
}

// Promise 12.1: rules that are not right, alone and in a source, first or last.
func TestWrongRules(t *testing.T) {
	good := europe(t).Rules[0]
	for i, change := range []func(r *api.Rule){
		func(r *api.Rule) { *r = api.Rule{} }, func(r *api.Rule) { r.Name = "" }, func(r *api.Rule) { r.Name = "a b" }, func(r *api.Rule) { r.From = 0 },
		func(r *api.Rule) { r.To = 1980 }, func(r *api.Rule) { r.To = 10000 }, func(r *api.Rule) { r.Month = 13 }, func(r *api.Rule) { r.On.N = 1 },
		func(r *api.Rule) { r.At.Clock = api.ClockCount }, func(r *api.Rule) { r.At.Sec = 604801 }, func(r *api.Rule) { r.Save = -604801 },
		func(r *api.Rule) { r.Letter = "-" }, func(r *api.Rule) { r.Letter = "\"" },
	} {
		wrong := good
		change(&wrong)
		if got, why := Rule(wrong); got != "" || why != api.ErrForm {
			t.Errorf("the rule %d is %q, %d", i, got, why)
		}
		for _, l := range [][]api.Rule{{wrong}, {wrong, good}, {good, wrong}} {
			if got, why := Text(api.Source{Rules: l}); got != "" || why != api.ErrForm {
				t.Errorf("with the rule %d it is %q, %d", i, got, why)
			}
		}
	}
}

// Promise 12.1: zones that are not right, alone and in a source, first or last.
func TestWrongZones(t *testing.T) {
	good := europe(t).Zones[0]
	for i, change := range []func(z *api.Zone){
		func(z *api.Zone) { *z = api.Zone{} }, func(z *api.Zone) { z.Name = "" }, func(z *api.Zone) { z.Name = "1" }, func(z *api.Zone) { z.Name = strings.Repeat("A", 65) },
		func(z *api.Zone) { z.Eras = nil }, func(z *api.Zone) { z.Eras = []api.Era{} }, func(z *api.Zone) { z.Eras = z.Eras[:1] }, func(z *api.Zone) { z.Eras = z.Eras[:3] },
		func(z *api.Zone) { z.Eras = append(z.Eras, z.Eras[3]) }, func(z *api.Zone) { z.Eras[0] = z.Eras[3] }, func(z *api.Zone) { z.Eras[2] = z.Eras[3] },
		func(z *api.Zone) { z.Eras[0].Format = "" }, func(z *api.Zone) { z.Eras[3].Format = "%s%s" }, func(z *api.Zone) { z.Eras[1].Std = 604801 },
		func(z *api.Zone) { z.Eras[1].Save = 1 }, func(z *api.Zone) { z.Eras[2].Until.Year = 0 }, func(z *api.Zone) { z.Eras[3].Until.Year = 1 },
		func(z *api.Zone) { z.Eras[3].Kind = api.EraCount },
		func(z *api.Zone) { z.Eras = slices.Concat(slices.Repeat(z.Eras[:1], maxEras), z.Eras[3:]) },
	} {
		wrong := api.Zone{Name: good.Name, Eras: slices.Clone(good.Eras)}
		change(&wrong)
		if got, why := Zone(wrong); got != nil || why != api.ErrForm {
			t.Errorf("the zone %d is %q, %d", i, got, why)
		}
		for _, l := range [][]api.Zone{{wrong}, {wrong, good}, {good, wrong}} {
			if got, why := Text(api.Source{Zones: l}); got != "" || why != api.ErrForm {
				t.Errorf("with the zone %d it is %q, %d", i, got, why)
			}
		}
	}
}

// Promise 12.1: links that are not right, alone and in a source, first or last.
func TestWrongLinks(t *testing.T) {
	good := api.Link{Target: "A", Name: "B"}
	for _, wrong := range []api.Link{{}, {Target: "A"}, {Name: "B"}, {Target: "1", Name: "B"}, {Target: "A", Name: "-"}, {Target: "A", Name: "b c"}, {Target: "\u00e4", Name: "B"}, {Target: "A", Name: strings.Repeat("A", 65)}} {
		if got, why := Link(wrong); got != "" || why != api.ErrForm {
			t.Errorf("Link(%v) is %q, %d", wrong, got, why)
		}
		for _, l := range [][]api.Link{{wrong}, {wrong, good}, {good, wrong}} {
			if got, why := Text(api.Source{Links: l}); got != "" || why != api.ErrForm {
				t.Errorf("with %v it is %q, %d", wrong, got, why)
			}
		}
	}
}

// longest is a name of n bytes.
func longest(n int) string {
	return strings.Repeat("n", n)
}

// many is a source of so many rules, zones of so many eras, and links, all with names of 64 bytes.
func many(rules, zones, eras, links int) api.Source {
	var s api.Source
	one := api.Rule{Name: longest(64), From: 1980, To: 9998, Month: 9, On: api.Day{Kind: api.DayFrom, N: 31}, Save: -1, Letter: longest(32)}
	s.Rules = slices.Repeat([]api.Rule{one}, rules)
	ends := api.Era{Kind: api.EraRules, Rules: longest(64), Format: longest(32), Ends: true, Until: api.Until{Year: 1980, Month: 1, On: api.Day{N: 1}}}
	last := ends
	last.Ends, last.Until = false, api.Until{}
	l := append(slices.Repeat([]api.Era{ends}, eras-1), last)
	for range zones {
		s.Zones = append(s.Zones, api.Zone{Name: longest(64), Eras: slices.Clone(l)})
	}
	s.Links = slices.Repeat([]api.Link{{Target: longest(64), Name: longest(64)}}, links)
	return s
}

// filler is rules that are right, whose lines have so many bytes in all (no fewer than 35).
func filler(bytes int) []api.Rule {
	short := len("Rule  1 only - Jan 1 0:00 0:00 -\n")
	count := (bytes + short + 63) / (short + 64)
	letters := bytes - count*short
	var l []api.Rule
	for ; count > 0; count-- {
		n := letters / count
		l = append(l, api.Rule{Name: longest(n), From: 1, To: 1, Month: 1, On: api.Day{N: 1}})
		letters -= n
	}
	return l
}

// Promise 12.1: a text may have up to MaxText bytes; of a source whose text has more, what is not right is told ahead of that.
func TestTooLong(t *testing.T) {
	for i, s := range []api.Source{many(0, 1000, 1, maxLinks), many(0, 120, maxEras, 0), many(0, maxZones, 6, 9), many(1000, 800, 1, 4000)} {
		text, why := Text(s)
		if why != api.OK {
			t.Fatalf("the text of %d is %d", i, why)
		}
		s.Rules = append(s.Rules, filler(maxText-len(text))...)
		text, why = Text(s)
		if len(text) != maxText || why != api.OK {
			t.Errorf("the text of %d has %d bytes, %d", i, len(text), why)
		}
		if got, f := source.Parse(text); f != (api.Fault{}) || !source.Same(got, s) {
			t.Errorf("the text of %d is read as %v", i, f)
		}
		last := &s.Rules[len(s.Rules)-1]
		last.From, last.To = 10, 10
		if text, why := Text(s); text != "" || why != api.ErrLong {
			t.Errorf("the text of %d and a byte more has %d bytes, %d", i, len(text), why)
		}
		last.From = 0
		if text, why := Text(s); text != "" || why != api.ErrForm {
			t.Errorf("the text of %d, not right and a byte more, has %d bytes, %d", i, len(text), why)
		}
	}
}

// Promise 12.1: sources that have as much as there may be, and more.
func TestMany(t *testing.T) {
	for i, c := range []struct {
		s   api.Source
		why api.Errno
	}{
		{many(maxRules, 0, 1, 0), api.OK},
		{many(0, maxZones, 1, 0), api.OK},
		{many(0, 0, 1, maxLinks), api.OK},
		{many(0, 1, maxEras, 0), api.OK},
		{many(0, maxZones, maxEras, 0), api.ErrLong},
		{many(maxRules, 0, 1, maxLinks), api.ErrLong},
		{many(maxRules+1, 0, 1, 0), api.ErrForm},
		{many(0, maxZones+1, 1, 0), api.ErrForm},
		{many(0, 0, 1, maxLinks+1), api.ErrForm},
		{many(0, 1, maxEras+1, 0), api.ErrForm},
		{many(0, maxZones, maxEras+1, 0), api.ErrForm},
	} {
		text, why := Text(c.s)
		if why != c.why || (text == "") != (why != api.OK) {
			t.Errorf("the text of %d is of %d bytes, %d", i, len(text), why)
		}
		if why != api.OK {
			continue
		}
		if got, f := source.Parse(text); f != (api.Fault{}) || !source.Same(got, c.s) {
			t.Errorf("the text of %d is read as %v", i, f)
		}
	}
}

// someSource is a source that is right, of n of all; each number has other ones.
func someSource(n int) api.Source {
	names := []string{"EU", "_", "Rule", "zone", "L", "a+b-c/9_Z", longest(64)}
	seconds := []int64{0, 1, -1, 3600, -3600, 20705, 86400, 604800, -604800}
	days := []api.Day{{N: 1}, {N: 31}, {Kind: api.DayLast, Dow: 6}, {Kind: api.DayFrom, N: 8}, {Kind: api.DayUpto, N: 25, Dow: 5}}
	letters := []string{"", "S", "--", "+01", longest(32)}
	formats := []string{"UTC", "-", "A%sB", "%z", "GMT/BST", "+03/+04", longest(32)}
	s := api.Source{}
	for i := n; i < 2*n; i++ {
		on, at := days[i%len(days)], api.Moment{Sec: seconds[i*5%len(seconds)], Clock: api.ClockKind(i % 3)}
		from := 1 + i*37%9999
		r := api.Rule{Name: names[i%len(names)], From: from, To: []int{from, min(from+i, 9999), 9999}[i/3%3], Month: 1 + i%12, On: on, At: at, Save: seconds[i%len(seconds)], Letter: letters[i*3%len(letters)]}
		s.Rules = append(s.Rules, r)
		z := api.Zone{Name: names[i*3%len(names)]}
		for j := range 1 + i%maxEras {
			e := api.Era{Std: seconds[(i+j)%len(seconds)], Kind: api.EraKind((i + j) % 3), Format: formats[(i+j)%len(formats)], Ends: j < i%maxEras}
			if e.Kind == api.EraSave {
				e.Save = seconds[j%len(seconds)]
			}
			if e.Kind == api.EraRules {
				e.Rules = names[j%len(names)]
			}
			if e.Ends {
				e.Until = []api.Until{{Year: from, Month: r.Month, On: on, At: at}, {Year: from, Month: 1, On: api.Day{N: 1}}}[j%2]
			}
			z.Eras = append(z.Eras, e)
		}
		s.Zones = append(s.Zones, z)
		s.Links = append(s.Links, api.Link{Target: names[i%len(names)], Name: names[i/7%len(names)]})
	}
	return s
}

// textOf is the text of a right source, found in another way.
func textOf(s api.Source) string {
	text := ""
	for _, r := range s.Rules {
		l, _ := rule.Text(r)
		text += fmt.Sprintf("Rule %s\n", strings.Join(l, " "))
	}
	for _, z := range s.Zones {
		for i, e := range z.Eras {
			l, _ := era.Text(e)
			front := "\t"
			if i == 0 {
				front = "Zone " + z.Name + " "
			}
			text += front + strings.Join(l, " ") + "\n"
		}
	}
	for _, l := range s.Links {
		text += "Link " + l.Target + " " + l.Name + "\n"
	}
	return text
}

// Promises 12.1 and 12.2: right sources have their texts, and are read from them.
func TestThereAndBack(t *testing.T) {
	for n := range 90 {
		s := someSource(n)
		text, why := Text(s)
		if why != api.OK || text != textOf(s) {
			t.Fatalf("the text of %d is %q, %d", n, text, why)
		}
		if got, f := source.Parse(text); f != (api.Fault{}) || !source.Same(got, s) {
			t.Fatalf("%q is read as %v, %v, not %v", text, got, f, s)
		}
	}
}

// Promise 12.1: what is handed in is not changed, and what is answered is not shared.
func TestKeeps(t *testing.T) {
	s := europe(t)
	l, _ := Zone(s.Zones[0])
	for i := range l {
		l[i] = "x"
	}
	_ = append(l, "y")
	if got, why := Zone(s.Zones[0]); !slices.Equal(got, lines(sample)[5:9]) || why != api.OK {
		t.Errorf("it is %q, %d", got, why)
	}
	if text, why := Text(s); text != sample || why != api.OK || !source.Same(s, europe(t)) {
		t.Errorf("it is %q, %d", text, why)
	}
}
