package source

import (
	"fmt"
	"math/rand"
	"slices"
	"strings"
	"testing"

	"solstice/api"
	"solstice/era"
	"solstice/rule"
	"solstice/scan"
)

// The limits, as the document tells them.
const (
	maxRules = 4096
	maxZones = 1024
	maxEras  = 64
	maxLinks = 4096
	maxText  = 1 << 20
	maxLine  = 2048
)

// europe is a text with all that a source has.
const europe = `# Europe
Rule	EU	1981	max	-	Mar	lastSun	 1:00u	1:00	S
R EU 1996 ma - Oct lastSun 1:00u 0 -   # winter

Zone	Europe/Berlin	0:53:28 -	LMT	1893 Apr
			1:00	EU	CE%sT	1980
# between its eras
			"1":00	EU	CE%sT
link Europe/Berlin Europe/Busingen
zO UTC - - UTC
L UTC	"Etc/UTC"
ruLE EU 1 only - Jan 1 0 -1 -00
`

// europeSource is what it tells.
func europeSource() api.Source {
	last, one := api.Day{Kind: api.DayLast}, api.Moment{Sec: 3600, Clock: api.ClockUniversal}
	return api.Source{
		Rules: []api.Rule{
			{Name: "EU", From: 1981, To: 9999, Month: 3, On: last, At: one, Save: 3600, Letter: "S"},
			{Name: "EU", From: 1996, To: 9999, Month: 10, On: last, At: one},
			{Name: "EU", From: 1, To: 1, Month: 1, On: api.Day{N: 1}, Save: -3600, Letter: "-00"},
		},
		Zones: []api.Zone{
			{Name: "Europe/Berlin", Eras: []api.Era{
				{Std: 3208, Format: "LMT", Ends: true, Until: api.Until{Year: 1893, Month: 4, On: api.Day{N: 1}}},
				{Std: 3600, Kind: api.EraRules, Rules: "EU", Format: "CE%sT", Ends: true, Until: api.Until{Year: 1980, Month: 1, On: api.Day{N: 1}}},
				{Std: 3600, Kind: api.EraRules, Rules: "EU", Format: "CE%sT"},
			}},
			{Name: "UTC", Eras: []api.Era{{Format: "UTC"}}},
		},
		Links: []api.Link{{Target: "Europe/Berlin", Name: "Europe/Busingen"}, {Target: "UTC", Name: "Etc/UTC"}},
	}
}

// rules is n rules that are right, all unlike one another.
func rules(n int) []api.Rule {
	var l []api.Rule
	for i := range n {
		l = append(l, api.Rule{Name: fmt.Sprintf("R%d", i), From: 1 + i, To: 9999, Month: 1 + i%12, On: api.Day{N: 1 + i%31}})
	}
	return l
}

// eras is n eras that are right, of which all but the last one end.
func eras(n int) []api.Era {
	var l []api.Era
	for i := range n {
		l = append(l, api.Era{Std: int64(60 * i), Format: "A%z", Ends: true, Until: api.Until{Year: 1900 + i, Month: 1, On: api.Day{N: 1}}})
	}
	if n > 0 {
		l[n-1].Ends, l[n-1].Until = false, api.Until{}
	}
	return l
}

// zones is n zones that are right, of as many eras each.
func zones(n, count int) []api.Zone {
	var l []api.Zone
	for i := range n {
		l = append(l, api.Zone{Name: fmt.Sprintf("Z%d", i), Eras: eras(count)})
	}
	return l
}

// links is n links that are right.
func links(n int) []api.Link {
	var l []api.Link
	for i := range n {
		l = append(l, api.Link{Target: fmt.Sprintf("T%d", i), Name: fmt.Sprintf("L%d", i)})
	}
	return l
}

// textOf is a text that tells a right source, its parts one behind the other.
func textOf(s api.Source) string {
	var b strings.Builder
	for _, r := range s.Rules {
		l, _ := rule.Text(r)
		fmt.Fprintln(&b, "Rule", strings.Join(l, "\t"))
	}
	for _, z := range s.Zones {
		front := "Zone " + z.Name
		for _, e := range z.Eras {
			l, _ := era.Text(e)
			fmt.Fprintln(&b, front, strings.Join(l, " "))
			front = ""
		}
	}
	for _, k := range s.Links {
		fmt.Fprintln(&b, "Link", k.Target, k.Name)
	}
	return b.String()
}

// isZero tells whether s has nothing at all.
func isZero(s api.Source) bool {
	return s.Rules == nil && s.Zones == nil && s.Links == nil
}

// mustParse is the source that a right text tells.
func mustParse(t *testing.T, text string) api.Source {
	t.Helper()
	s, f := Parse(text)
	if f != (api.Fault{}) {
		t.Fatalf("Parse(%.200q) is %v", text, f)
	}
	return s
}

// mustFail tells if a text has another fault, or a source.
func mustFail(t *testing.T, text string, want api.Fault) {
	t.Helper()
	if s, f := Parse(text); f != want || !isZero(s) {
		t.Errorf("Parse(%.200q) is %.200v, %v, not %v", text, s, f, want)
	}
}

// Promise 11.1: sources that are right, up to as many of all as there may be.
func TestCheckRight(t *testing.T) {
	for i, s := range []api.Source{
		{}, europeSource(),
		{Rules: []api.Rule{}, Zones: []api.Zone{}, Links: []api.Link{}},
		{Rules: rules(maxRules)}, {Zones: zones(maxZones, 1)}, {Links: links(maxLinks)},
		{Zones: zones(1, maxEras)}, {Zones: zones(maxZones, maxEras)},
		{Rules: rules(maxRules), Zones: zones(maxZones, 2), Links: links(maxLinks)},
		{Rules: slices.Repeat(rules(1), 3), Zones: slices.Repeat(zones(1, 1), 3), Links: slices.Repeat(links(1), 3)},
	} {
		if why := Check(s); why != api.OK {
			t.Errorf("Check of %d is %d", i, why)
		}
	}
}

// wrongSources is sources of which one part alone is not right.
func wrongSources() []api.Source {
	var out []api.Source
	put := func(change func(s *api.Source)) {
		s := api.Source{Rules: rules(3), Zones: zones(3, 3), Links: links(3)}
		change(&s)
		out = append(out, s)
	}
	for i := range 3 {
		put(func(s *api.Source) { s.Rules[i] = api.Rule{} })
		put(func(s *api.Source) { s.Rules[i].Letter = "-" })
		put(func(s *api.Source) { s.Rules[i].From = 10000 })
		for _, name := range []string{"", "1", "-", "a b", "\u00e4", strings.Repeat("A", 65)} {
			put(func(s *api.Source) { s.Rules[i].Name = name })
			put(func(s *api.Source) { s.Zones[i].Name = name })
			put(func(s *api.Source) { s.Links[i].Target = name })
			put(func(s *api.Source) { s.Links[i].Name = name })
		}
		put(func(s *api.Source) { s.Zones[i].Eras = nil })
		put(func(s *api.Source) { s.Zones[i].Eras = []api.Era{} })
		put(func(s *api.Source) { s.Zones[i].Eras = eras(maxEras + 1) })
		put(func(s *api.Source) { s.Zones[i].Eras = s.Zones[i].Eras[:1] })
		put(func(s *api.Source) { s.Zones[i].Eras = s.Zones[i].Eras[:2] })
		put(func(s *api.Source) { s.Zones[i].Eras = slices.Repeat(eras(1), 2) })
		put(func(s *api.Source) { s.Zones[i].Eras = slices.Concat(eras(2), eras(2)) })
		for j := range 3 {
			put(func(s *api.Source) { s.Zones[i].Eras[j].Format = "" })
			put(func(s *api.Source) { s.Zones[i].Eras[j].Std = 604801 })
			put(func(s *api.Source) { s.Zones[i].Eras[j].Save = 1 })
			put(func(s *api.Source) { s.Zones[i].Eras[j] = api.Era{} })
		}
		put(func(s *api.Source) { s.Zones[i].Eras[0] = eras(1)[0] })
		put(func(s *api.Source) { s.Zones[i].Eras[1] = eras(1)[0] })
		put(func(s *api.Source) { s.Zones[i].Eras[2] = eras(2)[0] })
		put(func(s *api.Source) { s.Zones[i].Eras[1].Until.Month = 13 })
		put(func(s *api.Source) { s.Zones[i].Eras[2].Until.Year = 2000 })
	}
	put(func(s *api.Source) { s.Rules = rules(maxRules + 1) })
	put(func(s *api.Source) { s.Zones = zones(maxZones+1, 1) })
	put(func(s *api.Source) { s.Links = links(maxLinks + 1) })
	return out
}

// Promise 11.1: sources that are not right.
func TestCheckWrong(t *testing.T) {
	for i, s := range wrongSources() {
		if why := Check(s); why != api.ErrForm {
			t.Errorf("Check of %d, %.400v, is %d", i, s, why)
		}
	}
}

// others is sources each of which has another thing than europeSource.
func others() []api.Source {
	var out []api.Source
	put := func(change func(s *api.Source)) {
		s := europeSource()
		change(&s)
		out = append(out, s)
	}
	put(func(s *api.Source) { *s = api.Source{} })
	put(func(s *api.Source) { s.Rules = nil })
	put(func(s *api.Source) { s.Zones = nil })
	put(func(s *api.Source) { s.Links = nil })
	put(func(s *api.Source) { s.Rules = s.Rules[:2] })
	put(func(s *api.Source) { s.Rules = append(s.Rules, s.Rules[2]) })
	put(func(s *api.Source) { s.Zones = s.Zones[:1] })
	put(func(s *api.Source) { s.Zones = append(s.Zones, s.Zones[1]) })
	put(func(s *api.Source) { s.Links = s.Links[1:] })
	put(func(s *api.Source) { s.Links = append(s.Links, s.Links[1]) })
	put(func(s *api.Source) { slices.Reverse(s.Rules) })
	put(func(s *api.Source) { slices.Reverse(s.Zones) })
	put(func(s *api.Source) { slices.Reverse(s.Links) })
	put(func(s *api.Source) { slices.Reverse(s.Zones[0].Eras) })
	put(func(s *api.Source) { s.Zones[0].Eras = s.Zones[0].Eras[:2] })
	put(func(s *api.Source) { s.Zones[1].Eras = nil })
	put(func(s *api.Source) { s.Zones[1].Eras = append(s.Zones[1].Eras, api.Era{}) })
	put(func(s *api.Source) { s.Zones[1].Name = "utc" })
	put(func(s *api.Source) { s.Zones[0].Name = "" })
	put(func(s *api.Source) { s.Links[0].Name += "x" })
	put(func(s *api.Source) { s.Links[1].Target = "Utc" })
	for _, change := range []func(r *api.Rule){
		func(r *api.Rule) { r.Name = "eu" }, func(r *api.Rule) { r.From++ }, func(r *api.Rule) { r.To-- }, func(r *api.Rule) { r.Month++ },
		func(r *api.Rule) { r.On.Kind++ }, func(r *api.Rule) { r.On.N++ }, func(r *api.Rule) { r.On.Dow++ },
		func(r *api.Rule) { r.At.Sec++ }, func(r *api.Rule) { r.At.Clock++ }, func(r *api.Rule) { r.Save++ }, func(r *api.Rule) { r.Letter += "s" },
	} {
		for i := range 3 {
			put(func(s *api.Source) { change(&s.Rules[i]) })
		}
	}
	for _, change := range []func(e *api.Era){
		func(e *api.Era) { e.Std++ }, func(e *api.Era) { e.Kind++ }, func(e *api.Era) { e.Save-- }, func(e *api.Era) { e.Rules += "u" },
		func(e *api.Era) { e.Format += "x" }, func(e *api.Era) { e.Ends = !e.Ends }, func(e *api.Era) { e.Until.Year++ }, func(e *api.Era) { e.Until.Month++ },
		func(e *api.Era) { e.Until.On.N++ }, func(e *api.Era) { e.Until.At.Sec++ },
	} {
		for i := range 3 {
			put(func(s *api.Source) { change(&s.Zones[0].Eras[i]) })
		}
		put(func(s *api.Source) { change(&s.Zones[1].Eras[0]) })
	}
	return out
}

// Promise 11.1: sources that are equal in all, right or not, and such as are not.
func TestSame(t *testing.T) {
	all := append(others(), europeSource())
	for i, a := range all {
		again := append(others(), europeSource())[i]
		if !Same(a, a) || !Same(a, again) {
			t.Errorf("%d is not the same as it is", i)
		}
	}
	for i, a := range others() {
		if Same(a, europeSource()) || Same(europeSource(), a) {
			t.Errorf("%d is the same: %v", i, a)
		}
	}
	empty := api.Source{Rules: []api.Rule{}, Zones: []api.Zone{}, Links: []api.Link{}}
	if !Same(empty, api.Source{}) || !Same(api.Source{}, empty) {
		t.Error("an empty source is not the same as one that has nothing")
	}
	none, some := api.Source{Zones: []api.Zone{{Name: "A"}}}, api.Source{Zones: []api.Zone{{Name: "A", Eras: []api.Era{}}}}
	if !Same(none, some) {
		t.Error("a zone of no eras is not the same as another one")
	}
}

// Promise 11.1: the rules of a name, in order.
func TestRules(t *testing.T) {
	s := europeSource()
	other := api.Rule{Name: "eu", From: 5}
	s.Rules = slices.Insert(s.Rules, 1, other, api.Rule{Name: "E"}, api.Rule{}, api.Rule{Name: "EUX"})
	eu := europeSource().Rules
	for name, want := range map[string][]api.Rule{"EU": eu, "eu": {other}, "E": {{Name: "E"}}, "": {{}}, "EUX": {{Name: "EUX"}}, "Eu": nil, "U": nil, "Europe/Berlin": nil} {
		if got := Rules(s, name); !slices.Equal(got, want) {
			t.Errorf("Rules of %q is %v", name, got)
		}
	}
	if l := Rules(api.Source{}, "EU"); len(l) != 0 {
		t.Errorf("a source without rules has %v", l)
	}
	for i := range eu {
		if got := Rules(api.Source{Rules: eu[i:]}, "EU"); !slices.Equal(got, eu[i:]) {
			t.Errorf("from %d on it is %v", i, got)
		}
	}
	many := rules(2 * maxRules)
	for _, i := range []int{0, maxRules - 1, 2*maxRules - 1} {
		if got := Rules(api.Source{Rules: many}, many[i].Name); !slices.Equal(got, many[i:i+1]) {
			t.Errorf("of many it is %v", got)
		}
	}
}

// Promise 11.1: the names of zones, and then of links, in order, each as often as it is there.
func TestNames(t *testing.T) {
	for _, c := range []struct {
		s    api.Source
		want string
	}{
		{api.Source{}, ""},
		{europeSource(), "Europe/Berlin UTC Europe/Busingen Etc/UTC"},
		{api.Source{Rules: rules(3)}, ""},
		{api.Source{Links: links(3)}, "L0 L1 L2"},
		{api.Source{Zones: zones(3, 2)}, "Z0 Z1 Z2"},
		{api.Source{Zones: zones(1, 1), Links: []api.Link{{Target: "b", Name: "Z0"}, {Target: "c", Name: "A"}, {Target: "A", Name: "A"}}}, "Z0 Z0 A A"},
		{api.Source{Zones: []api.Zone{{Name: "z"}, {Name: "a"}, {Name: "z"}}}, "z a z"},
		{api.Source{Zones: []api.Zone{{}}, Links: []api.Link{{Name: "\u00e4"}}}, " \u00e4"},
	} {
		got := Names(c.s)
		if strings.Join(got, " ") != c.want || len(got) != len(c.s.Zones)+len(c.s.Links) {
			t.Errorf("Names of %v is %q, not %q", c.s, got, c.want)
		}
	}
}

// Promise 11.1: what is handed in is not changed, and what is answered is not shared.
func TestKeepsSource(t *testing.T) {
	s, want := europeSource(), europeSource()
	r, n := Rules(s, "EU"), Names(s)
	for i := range r {
		r[i] = api.Rule{}
	}
	for i := range n {
		n[i] = ""
	}
	_, _ = append(r, api.Rule{}), append(n, "x")
	Check(s)
	Same(s, s)
	if !Same(s, want) || len(Rules(s, "EU")) != 3 || !slices.Contains(Names(s), "UTC") {
		t.Errorf("it is %v", s)
	}
}

// Promise 11.2: a text with all that a source has, and texts that have nothing.
func TestParse(t *testing.T) {
	if got := mustParse(t, europe); !Same(got, europeSource()) {
		t.Errorf("it is %v", got)
	}
	if got := mustParse(t, strings.ReplaceAll(europe, "\n", "\r\n")); !Same(got, europeSource()) {
		t.Errorf("with carriage returns it is %v", got)
	}
	if got := mustParse(t, strings.TrimSpace(europe)); !Same(got, europeSource()) {
		t.Errorf("without a last line feed it is %v", got)
	}
	for _, text := range []string{"", "\n", "\n\n\n", " \t\r\n", "#", "# Rule\n  #\x01 Zone", strings.Repeat("\n", maxText), strings.Repeat("# x\n", maxText/4)} {
		if got := mustParse(t, text); !Same(got, api.Source{}) {
			t.Errorf("Parse(%.20q) is %v", text, got)
		}
	}
}

// Promise 11.2: no two lists of a source that was read are shared, nor are those of two readings.
func TestParseShares(t *testing.T) {
	a, b := mustParse(t, europe), mustParse(t, europe)
	_ = append(a.Zones[0].Eras, api.Era{Format: "x"})
	_ = append(a.Zones[0].Eras[:1], api.Era{Format: "x"})
	a.Rules[0], a.Links[0], a.Zones[0] = api.Rule{}, api.Link{}, api.Zone{}
	if !Same(b, europeSource()) || a.Zones[1].Eras[0].Format != "UTC" {
		t.Errorf("it is %v, %v", a, b)
	}
}

// Promise 11.2: a line begins what its first field means, by any beginning of the word, letters alike.
func TestParseWords(t *testing.T) {
	want := api.Source{Rules: rules(1), Zones: zones(1, 1), Links: links(1)}
	lines := strings.Split(textOf(want), "\n")
	for i, word := range []string{"RULE", "ZONE", "LINK"} {
		for n := 1; n <= len(word); n++ {
			for _, s := range []string{word[:n], strings.ToLower(word[:n]), word[:1] + strings.ToLower(word[1:n]), strings.ToLower(word[:1]) + word[1:n], `"` + word[:n] + `"`, word[:1] + `"` + word[1:n] + `"`} {
				put := slices.Clone(lines)
				put[i] = " \t" + s + lines[i][len(word):]
				if got := mustParse(t, strings.Join(put, "\n")); !Same(got, want) {
					t.Errorf("with %q it is %v", s, got)
				}
			}
		}
		for _, s := range []string{word + "S", word + "-", "x" + word, word[1:], `""`, `"` + word + ` "`, "-", "1:00", "\u00e4", word[:1] + "x", "Rule_", "e", "RuleZone"} {
			put := slices.Clone(lines)
			put[i] = " \t" + s + lines[i][len(word):]
			mustFail(t, strings.Join(put, "\n"), api.Fault{Line: i + 1, Col: 3, Why: api.ErrName})
		}
	}
}

// Promise 11.2: the fault of the lines themselves is told first, wherever it is.
func TestParseLines(t *testing.T) {
	long := "#" + strings.Repeat("x", maxLine)
	for _, c := range []struct {
		text string
		want api.Fault
	}{
		{strings.Repeat("\n", maxText+1), api.Fault{Why: api.ErrLong}},
		{"x y z" + strings.Repeat("\n", maxText), api.Fault{Why: api.ErrLong}},
		{"Rule a\x01", api.Fault{Line: 1, Col: 7, Why: api.ErrSyntax}},
		{"wrong\n\nRule a\x01", api.Fault{Line: 3, Col: 7, Why: api.ErrSyntax}},
		{"Link 1 2\n  \"Link a b", api.Fault{Line: 2, Col: 3, Why: api.ErrShort}},
		{"Zone a 0 - UTC 2000\n" + long, api.Fault{Line: 2, Col: maxLine + 1, Why: api.ErrLong}},
		{"Rule" + strings.Repeat(" x", 24), api.Fault{Line: 1, Col: 52, Why: api.ErrLong}},
		{europe + "\x7f", api.Fault{Line: 13, Col: 1, Why: api.ErrSyntax}},
	} {
		mustFail(t, c.text, c.want)
	}
}

// Promises 11.2 and 11.3: lines that are not right: which one, which column, and why.
func TestParseWrong(t *testing.T) {
	for _, c := range []struct {
		text      string
		line, col int
		why       api.Errno
	}{
		{"x", 1, 1, api.ErrName},
		{"  \"\" Rule", 1, 3, api.ErrName},
		{"\n#\n\n   1:00 - A", 4, 4, api.ErrName},

		{"Rule", 1, 1, api.ErrShort},
		{"  Rule # EU", 1, 3, api.ErrShort},
		{"Rule  EU", 1, 7, api.ErrShort},
		{"Rule 1", 1, 6, api.ErrName},
		{"Rule \"\" 1981", 1, 6, api.ErrName},
		{"Rule EU 0", 1, 9, api.ErrSyntax},
		{"Rule EU 1981 1980 x x x", 1, 14, api.ErrOrder},
		{"Rule EU 1981 max Mar", 1, 18, api.ErrSyntax},
		{"Rule EU 1981 max - Ma", 1, 20, api.ErrName},
		{"Rule EU 1981 max - Mar  ", 1, 20, api.ErrShort},
		{"Rule EU 1981 max - Mar 32", 1, 24, api.ErrSyntax},
		{"Rule EU 1981 max - Mar 31 169", 1, 27, api.ErrRange},
		{"Rule EU 1981 max - Mar 31 1:00x", 1, 27, api.ErrSyntax},
		{"Rule EU 1981 max - Mar 31 1:00 -169", 1, 32, api.ErrRange},
		{"Rule EU 1981 max - Mar 31 1:00 0", 1, 32, api.ErrShort},
		{"Rule EU 1981 max - Mar 31 1:00 0 %s", 1, 34, api.ErrSyntax},
		{"Rule EU 1981 max - Mar 31 1:00 0 -  \t\"S\" T", 1, 38, api.ErrLong},
		{"Rule EU 1981 max - Mar 31 1:00 0 % S", 1, 34, api.ErrSyntax},

		{"Zone", 1, 1, api.ErrShort},
		{"\tZone\tA", 1, 7, api.ErrShort},
		{"Zone A  0", 1, 9, api.ErrShort},
		{"Zone A 0 -", 1, 10, api.ErrShort},
		{"Zone A x", 1, 8, api.ErrSyntax},
		{"Zone A 169 -", 1, 8, api.ErrRange},
		{"Zone A 0 +", 1, 10, api.ErrName},
		{"Zone A 0 1:0 x", 1, 10, api.ErrSyntax},
		{"Zone A 0 -169 x", 1, 10, api.ErrRange},
		{"Zone A 0 - %", 1, 12, api.ErrSyntax},
		{"Zone A 0 - UTC x", 1, 16, api.ErrSyntax},
		{"Zone A 0 - UTC 2000 x 1", 1, 21, api.ErrName},
		{"Zone A 0 - UTC 2000 Jan 32 x", 1, 25, api.ErrSyntax},
		{"Zone A 0 - UTC 2000 Jan 1 169", 1, 27, api.ErrRange},
		{"Zone A 0 - UTC 2000 Jan 1 0  \"\"", 1, 30, api.ErrLong},
		{"Zone A 0 - UTC 2000 Jan 1 0 x y", 1, 29, api.ErrLong},

		{"Zone 1 0 - UTC", 1, 6, api.ErrName},
		{"Zone \"\" 0 - UTC", 1, 6, api.ErrName},
		{"Zone A.B 0 - UTC 2000", 1, 6, api.ErrName},
		{"Zone " + strings.Repeat("A", 65) + " 0 - UTC", 1, 6, api.ErrName},

		{"Link", 1, 1, api.ErrShort},
		{" Link  A", 1, 8, api.ErrShort},
		{"Link 1", 1, 6, api.ErrName},
		{"Link \"\"", 1, 6, api.ErrName},
		{"Link A 1", 1, 8, api.ErrName},
		{"Link A \"B C\"", 1, 8, api.ErrName},
		{"Link 1 2", 1, 6, api.ErrName},
		{"Link A B C", 1, 10, api.ErrLong},
		{"Link A B \"\"", 1, 10, api.ErrLong},
		{"Link A B C D E", 1, 10, api.ErrLong},
		{"Link 1 B C", 1, 6, api.ErrName},
		{"Link A 1 C", 1, 8, api.ErrName},
		{"Link " + strings.Repeat("A", 65) + " B", 1, 6, api.ErrName},
	} {
		want := api.Fault{Line: c.line, Col: c.col, Why: c.why}
		mustFail(t, c.text, want)
		mustFail(t, c.text+"\nwrong", want)
		mustFail(t, c.text+"\n0 - UTC\n", want)
		want.Line += 13
		mustFail(t, europe+"\n"+c.text, want)
	}
}

// Promise 11.3: what is wrong with an era's texts is told ahead of what is wrong with a zone's name.
func TestParseZoneOrder(t *testing.T) {
	for _, c := range []struct {
		text string
		col  int
		why  api.Errno
	}{
		{"Zone 1", 6, api.ErrShort},
		{"Zone 1 0 -", 10, api.ErrShort},
		{"Zone 1 x - UTC", 8, api.ErrSyntax},
		{"Zone 1 169 - UTC", 8, api.ErrRange},
		{"Zone 1 0 + UTC", 10, api.ErrName},
		{"Zone 1 0 - %", 12, api.ErrSyntax},
		{"Zone 1 0 - UTC 2000 Jan 1 0 x", 29, api.ErrLong},
		{"Zone 1 0 - UTC 2000 Jan 1 0", 6, api.ErrName},
	} {
		mustFail(t, c.text, api.Fault{Line: 1, Col: c.col, Why: c.why})
	}
}

// Promises 11.2 and 11.3: behind an era that ends stands the next one alone, whatever its line begins with; behind one that does not, none.
func TestParseEras(t *testing.T) {
	const ends = "Zone A 0 - UTC 2000\n"
	for _, c := range []struct {
		text      string
		line, col int
		why       api.Errno
	}{
		{ends, 1, 1, api.ErrShort},
		{"  " + ends + "\n# x\n\n", 1, 3, api.ErrShort},
		{europe + " \tz B 0 - UTC 2000 ", 13, 3, api.ErrShort},
		{ends + "\n\n  0 - UTC 2001", 4, 3, api.ErrShort},
		{ends + "\"0\" - UTC 2001\n \t- - UTC 2002 Jan\n\n#\n", 3, 3, api.ErrShort},
		{ends + "Rule EU 1981 max - Mar 31 1:00 0 -", 2, 1, api.ErrSyntax},
		{ends + "Zone A 0 - UTC", 2, 1, api.ErrSyntax},
		{ends + "Link A B", 2, 1, api.ErrSyntax},
		{ends + "x", 2, 1, api.ErrSyntax},
		{ends + "\n169 - x", 3, 1, api.ErrRange},
		{ends + " 0", 2, 2, api.ErrShort},
		{ends + " 0   -", 2, 6, api.ErrShort},
		{ends + " 0 +", 2, 4, api.ErrName},
		{ends + " 0 - %", 2, 6, api.ErrSyntax},
		{ends + " 0 - UTC x", 2, 10, api.ErrSyntax},
		{ends + " 0 - UTC 2001 Jan 1 0 x", 2, 23, api.ErrLong},
		{ends + " 0 - UTC 2001\nx", 3, 1, api.ErrSyntax},
		{ends + " 0 - UTC\n 0 - UTC", 3, 2, api.ErrName},
		{ends + " 0 - UTC\n - - UTC", 3, 2, api.ErrName},
		{"Zone A 0 - UTC\n\t0 - UTC 2000", 2, 2, api.ErrName},
		{"Zone A 0 - UTC\nZone B 0 - UTC 2000\nLink A C", 3, 1, api.ErrSyntax},
	} {
		mustFail(t, c.text, api.Fault{Line: c.line, Col: c.col, Why: c.why})
	}
	got := mustParse(t, ends+"# x\n\n1 - B 2001 # y\n2 - C\nZone B 3 - D\nz C 4 - E 1\n5 - F\nRule A 1 o - d 1 0 0 -")
	if len(got.Zones) != 3 || len(got.Rules) != 1 {
		t.Fatalf("it is %v", got)
	}
	for i, want := range []string{"0 UTC 2000 3600 B 2001 7200 C 0", "10800 D 0", "14400 E 1 18000 F 0"} {
		var l []string
		for _, e := range got.Zones[i].Eras {
			l = append(l, fmt.Sprint(e.Std, " ", e.Format, " ", e.Until.Year))
		}
		if strings.Join(l, " ") != want {
			t.Errorf("the zone %d is %q, not %q", i, l, want)
		}
	}
}

// Promises 11.2 and 11.3: as many rules, zones, links and eras as there may be, and one more, wrong or not.
func TestParseLimits(t *testing.T) {
	full := api.Source{Rules: rules(maxRules), Zones: zones(maxZones, 1), Links: links(maxLinks)}
	full.Zones[7].Eras, full.Zones[8].Eras = eras(maxEras), eras(maxEras)
	text := textOf(full)
	if got := mustParse(t, text); !Same(got, full) || Check(got) != api.OK {
		t.Error("a full source is not read as it was")
	}
	last := strings.Count(text, "\n") + 1
	for _, line := range []string{
		" Rule EU 1 max - Jan 1 0 0 -", " r", " Rule 1", " Rule EU x", " Rule EU 1 max - Jan 1 0 0 - x",
		" Zone A 0 - UTC", " Z", " Zone 1 0 - UTC", " Zone A", " Zone A x", " Zone A 0 - UTC 2000 Jan 1 0 x",
		" Link A B", " l", " Link 1", " Link A B C",
	} {
		mustFail(t, text+line, api.Fault{Line: last, Col: 2, Why: api.ErrLong})
	}
	mustFail(t, text+" x", api.Fault{Line: last, Col: 2, Why: api.ErrName})

	// Each of them is counted for itself.
	for _, c := range []struct{ text, one string }{
		{textOf(api.Source{Rules: full.Rules}), "Rule EU 1 max - Jan 1 0 0 -"},
		{textOf(api.Source{Zones: full.Zones}), "Zone A 0 - UTC"},
		{textOf(api.Source{Links: full.Links}), "Link A B"},
	} {
		n := strings.Count(c.text, "\n")
		mustFail(t, c.text+c.one, api.Fault{Line: n + 1, Col: 1, Why: api.ErrLong})
		mustFail(t, c.text+"\n\n  "+c.one+"\nx", api.Fault{Line: n + 3, Col: 3, Why: api.ErrLong})
		mustFail(t, c.one+"\n"+c.text, api.Fault{Line: n + 1, Col: 1, Why: api.ErrLong})
	}
}

// Promises 11.2 and 11.3: as many eras of a zone as there may be, and one more, wrong or not.
func TestParseManyEras(t *testing.T) {
	ending := "Zone A" + strings.Repeat(" 0 - A 2000\n", maxEras)
	mustFail(t, ending, api.Fault{Line: maxEras, Col: 2, Why: api.ErrShort})
	mustFail(t, ending[:len(ending)-1]+"\n\n#", api.Fault{Line: maxEras, Col: 2, Why: api.ErrShort})
	for _, line := range []string{"  0 - A", "  0 - A 2001", "  x", "  Rule", "  Zone B 0 - A", "  169", "  0"} {
		mustFail(t, ending+line, api.Fault{Line: maxEras + 1, Col: 3, Why: api.ErrLong})
		mustFail(t, ending+"\n"+line+"\nx", api.Fault{Line: maxEras + 2, Col: 3, Why: api.ErrLong})
	}
	// The line ahead of the last one may be told wrong still.
	short := ending[:len(ending)-len(" 0 - A 2000\n")]
	mustFail(t, short+" 0 - %", api.Fault{Line: maxEras, Col: 6, Why: api.ErrSyntax})
	for range 3 {
		short += " 0 - A\n"
		if got := mustParse(t, short); len(got.Zones[len(got.Zones)-1].Eras) != maxEras || Check(got) != api.OK {
			t.Fatalf("it is %v", got)
		}
		short += ending[:len(ending)-len(" 0 - A 2000\n")]
	}
}

// model is what Parse answers, found in another way: all that may be wrong with a line is found, and the first of it is told.
func model(text string) (api.Source, api.Fault) {
	lines, f := scan.Lines(text)
	if f != (api.Fault{}) {
		return api.Source{}, f
	}
	var s api.Source
	ends := false
	for _, line := range lines {
		var l []string
		var cols []int
		for _, field := range line.Fields {
			l, cols = append(l, field.Text), append(cols, field.Col)
		}
		var wrong []api.Fault
		put := func(is bool, at int, why api.Errno) {
			if is {
				wrong = append(wrong, api.Fault{Line: line.No, Col: append(slices.Clone(cols), cols[len(cols)-1])[at], Why: why})
			}
		}
		is := func(word string) bool { return l[0] != "" && strings.HasPrefix(word, strings.ToUpper(l[0])) }
		behind := append(l[1:], make([]string, 2)...)[:max(2, len(l)-1)]
		switch {
		case ends:
			z := &s.Zones[len(s.Zones)-1]
			e, at, why := era.Parse(l)
			put(len(z.Eras) >= maxEras, 0, api.ErrLong)
			put(why != api.OK, at, why)
			z.Eras, ends = append(z.Eras, e), e.Ends
		case is("RULE"):
			r, at, why := rule.Parse(l[1:])
			put(len(s.Rules) >= maxRules, 0, api.ErrLong)
			put(why != api.OK, 1+at, why)
			s.Rules = append(s.Rules, r)
		case is("ZONE"):
			e, at, why := era.Parse(l[min(len(l), 2):])
			put(len(s.Zones) >= maxZones, 0, api.ErrLong)
			put(why != api.OK, min(2+at, len(l)), why)
			put(len(l) > 1 && !rule.Name(behind[0]), 1, api.ErrName)
			s.Zones, ends = append(s.Zones, api.Zone{Name: behind[0], Eras: []api.Era{e}}), e.Ends
		case is("LINK"):
			put(len(s.Links) >= maxLinks, 0, api.ErrLong)
			put(len(l) > 1 && !rule.Name(behind[0]), 1, api.ErrName)
			put(len(l) > 2 && !rule.Name(behind[1]), 2, api.ErrName)
			put(len(l) < 3, len(l), api.ErrShort)
			put(len(l) > 3, 3, api.ErrLong)
			s.Links = append(s.Links, api.Link{Target: behind[0], Name: behind[1]})
		default:
			put(true, 0, api.ErrName)
		}
		if len(wrong) > 0 {
			return api.Source{}, wrong[0]
		}
	}
	if ends {
		last := lines[len(lines)-1]
		return api.Source{}, api.Fault{Line: last.No, Col: last.Fields[0].Col, Why: api.ErrShort}
	}
	return s, api.Fault{}
}

// pick is one of l.
func pick(r *rand.Rand, l ...string) string {
	return l[r.Intn(len(l))]
}

// someEra is the texts of an era, now and then of none.
func someEra(r *rand.Rand) []string {
	l := []string{pick(r, "0", "1:00", "-", "-3:30", "0:00:01"), pick(r, "-", "EU", "1:00", "-0:20", "_"), pick(r, "UTC", "CE%sT", "%z", "A/B")}
	if r.Intn(2) == 0 {
		until := []string{pick(r, "2000", "1", "9999"), pick(r, "Jan", "dec"), pick(r, "1", "lastSun", "Mon>=8"), pick(r, "0", "24:00u", "-")}
		l = append(l, until[:1+r.Intn(4)]...)
	}
	return l
}

// someLine is a line's texts, and whether an era is to come behind it, if they are right.
func someLine(r *rand.Rand, ends bool) ([]string, bool) {
	name := func() string { return pick(r, "A", "Europe/Berlin", "_", "a-1", "UTC") }
	l := someEra(r)
	switch kind := r.Intn(3); {
	case ends:
		return l, len(l) > 3
	case kind == 0:
		return append([]string{pick(r, "Zone", "z", "ZO"), name()}, l...), len(l) > 3
	case kind == 1:
		return []string{pick(r, "Link", "l", "lIN"), name(), name()}, false
	}
	return []string{pick(r, "Rule", "r", "RU"), name(), pick(r, "1", "1981"), pick(r, "o", "max", "1981"), "-", pick(r, "Jan", "oct"), pick(r, "1", "Sun<=25"), pick(r, "0", "2:00s"), pick(r, "0", "1:00"), pick(r, "-", "S")}, false
}

// someText is a text of n lines, of which one in so many has something wrong.
func someText(r *rand.Rand, n, wrong int) string {
	var b strings.Builder
	for ends := false; n > 0 || ends; n-- {
		l, next := someLine(r, ends)
		ends = next && n > -20
		for r.Intn(wrong) == 0 {
			at := r.Intn(len(l))
			switch r.Intn(4) {
			case 0:
				l = l[:at+1]
			case 1:
				l = slices.Insert(l, at, pick(r, "x", "-", "A", "0"))
			default:
				l[at] = pick(r, "", "x", "1", "-", "1:0", "169", "%", "2000", "Jan", "+", "\u00e4", "Rule", "Zone", "Link")
			}
		}
		for _, s := range l {
			if s == "" || r.Intn(5) == 0 {
				s = `"` + s + `"`
			}
			b.WriteString(pick(r, "", "", " ", "\t") + s + pick(r, " ", " ", "\t", " \r "))
		}
		b.WriteString(pick(r, "\n", "\n", "\n\n", "# x \"\x02\n", "\r\n#\n"))
	}
	return b.String()
}

// Promises 11.2, 11.3 and 11.4: texts of all kinds of lines, right and wrong, against the model; what is read is right.
func TestParseModel(t *testing.T) {
	r := rand.New(rand.NewSource(6))
	right, why := 0, map[api.Errno]int{}
	for i := range 60000 {
		text := someText(r, r.Intn(6), 8+i%40)
		want, fault := model(text)
		got, f := Parse(text)
		if f != fault || !Same(got, want) {
			t.Fatalf("Parse(%q) is %v, %v, not %v, %v", text, got, f, want, fault)
		}
		why[f.Why]++
		if f == (api.Fault{}) {
			right++
			if Check(got) != api.OK {
				t.Fatalf("Parse(%q) is %v, that is not right", text, got)
			}
		}
	}
	if right < 10000 || len(why) < 7 {
		t.Errorf("%d texts are right, the faults are %v", right, why)
	}
}

// Promise 11.4: what is put in front of a text, and is read itself, is read ahead of it.
func TestPutInFront(t *testing.T) {
	r := rand.New(rand.NewSource(7))
	texts := []string{"", "\n", "# x", europe, strings.TrimSpace(europe), textOf(europeSource())}
	for len(texts) < 60 {
		if text := someText(r, 1+r.Intn(9), 1000); text != "" {
			if _, f := Parse(text); f == (api.Fault{}) {
				texts = append(texts, text)
			}
		}
	}
	for _, a := range texts {
		for _, b := range texts {
			x, y, both := mustParse(t, a), mustParse(t, b), mustParse(t, a+"\n"+b)
			want := api.Source{Rules: slices.Concat(x.Rules, y.Rules), Zones: slices.Concat(x.Zones, y.Zones), Links: slices.Concat(x.Links, y.Links)}
			if !Same(both, want) {
				t.Fatalf("%q in front of %q is %v", a, b, both)
			}
		}
	}
	half := textOf(api.Source{Rules: rules(maxRules / 2), Zones: zones(maxZones/2, 2), Links: links(maxLinks / 2)})
	both := mustParse(t, half+half)
	if len(both.Rules) != maxRules || len(both.Zones) != maxZones || len(both.Links) != maxLinks || Check(both) != api.OK {
		t.Errorf("both together have %d, %d, %d", len(both.Rules), len(both.Zones), len(both.Links))
	}
}

// Promises 11.2 and 11.4: each right source that is written is read as it was, and each wrong text ends with a fault.
func TestReadAsWritten(t *testing.T) {
	for _, s := range []api.Source{{}, europeSource(), {Rules: rules(9), Zones: zones(9, 9), Links: links(9)}, {Zones: zones(2, maxEras)}} {
		if got := mustParse(t, textOf(s)); !Same(got, s) {
			t.Errorf("it is %v, not %v", got, s)
		}
	}
	for i := range len(europe) {
		for _, c := range []byte{0, '"', '\n', '#', 'x', 0xff} {
			text := europe[:i] + string([]byte{c}) + europe[i+1:]
			want, fault := model(text)
			got, f := Parse(text)
			if f != fault || !Same(got, want) || f == (api.Fault{}) && Check(got) != api.OK {
				t.Fatalf("Parse(%q) is %v, %v, not %v, %v", text, got, f, want, fault)
			}
		}
		want, fault := model(europe[:i])
		if got, f := Parse(europe[:i]); f != fault || !Same(got, want) {
			t.Fatalf("Parse(%q) is %v, %v, not %v, %v", europe[:i], got, f, want, fault)
		}
	}
}
