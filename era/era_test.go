package era

import (
	"math"
	"slices"
	"strings"
	"testing"

	"solstice/api"
	"solstice/clock"
	"solstice/moment"
)

const week = 604800 // seconds of an offset, and of what is saved, at most

// farSeconds is seconds that are no time.
var farSeconds = []int64{week + 1, -week - 1, math.MinInt64, math.MinInt64 + 1, math.MaxInt64, 1 << 32, -1 << 32}

// utc is a plain era that does not end.
func utc() api.Era {
	return api.Era{Format: "UTC"}
}

// with is e, changed.
func with(e api.Era, change func(e *api.Era)) api.Era {
	change(&e)
	return e
}

// someUntils is untils that are right, of one to four texts.
func someUntils() []api.Until {
	first := api.Day{N: 1}
	return []api.Until{
		{Year: 1, Month: 1, On: first},
		{Year: 9999, Month: 1, On: first},
		{Year: 1996, Month: 10, On: first},
		{Year: 1996, Month: 1, On: api.Day{Kind: api.DayLast, Dow: 6}},
		{Year: 1945, Month: 8, On: api.Day{N: 14}, At: api.Moment{Sec: 82800, Clock: api.ClockUniversal}},
		{Year: 1945, Month: 2, On: api.Day{N: 31}, At: api.Moment{Sec: -week, Clock: api.ClockStandard}},
		{Year: 1883, Month: 1, On: first, At: api.Moment{Sec: 43438}},
		{Year: 1922, Month: 6, On: api.Day{Kind: api.DayFrom, N: 25, Dow: 5}, At: api.Moment{Clock: api.ClockUniversal}},
	}
}

// someEras is eras that are right: all of many values with one another.
func someEras() []api.Era {
	seconds := []int64{0, 1, -1, 3600, -3600, 20700, -12601, 86400, week, -week}
	formats := []string{"UTC", "CE%sT", "%z", "GMT/BST", "-", "+03", strings.Repeat("F", 32)}
	kinds := []api.Era{{}}
	for _, sec := range seconds {
		kinds = append(kinds, api.Era{Kind: api.EraSave, Save: sec})
	}
	for _, name := range []string{"EU", "_", "a", "C-Eur", "Z/+-9", "last", strings.Repeat("n", 64)} {
		kinds = append(kinds, api.Era{Kind: api.EraRules, Rules: name})
	}
	var out []api.Era
	for _, std := range seconds {
		for _, format := range formats {
			for _, e := range kinds {
				e.Std, e.Format = std, format
				out = append(out, e)
				for _, until := range someUntils() {
					e.Ends, e.Until = true, until
					out = append(out, e)
				}
			}
		}
	}
	return out
}

// textsOf is the texts of a right era, found in another way.
func textsOf(e api.Era) []string {
	saved := []string{"-", clock.Text(e.Save), e.Rules}[e.Kind]
	l := []string{clock.Text(e.Std), saved, e.Format}
	until, _ := moment.TextUntil(e.Until)
	return slices.Concat(l, until)
}

// Promises 10.1 and 10.3: eras that are right are so, have their texts, and are read from them.
func TestRightEras(t *testing.T) {
	for _, e := range someEras() {
		want := textsOf(e)
		l, why := Text(e)
		if !slices.Equal(l, want) || why != api.OK || Check(e) != api.OK {
			t.Fatalf("Text(%v) is %q, %d, not %q; Check is %d", e, l, why, want, Check(e))
		}
		if got, at, why := Parse(l); got != e || at != 0 || why != api.OK {
			t.Fatalf("Parse(%q) is %v, %d, %d, not %v", l, got, at, why, e)
		}
	}
}

// Promises 10.1 and 10.3: each time as the standard offset, and as what is saved.
func TestTimes(t *testing.T) {
	for sec := int64(-week); sec <= week; sec++ {
		e := api.Era{Std: sec, Kind: api.EraSave, Save: -sec, Format: "%z"}
		want := []string{clock.Text(sec), clock.Text(-sec), "%z"}
		l, why := Text(e)
		if !slices.Equal(l, want) || why != api.OK || Check(e) != api.OK {
			t.Fatalf("Text(%v) is %q, %d; Check is %d", e, l, why, Check(e))
		}
		if got, at, why := Parse(l); got != e || at != 0 || why != api.OK {
			t.Fatalf("Parse(%q) is %v, %d, %d", l, got, at, why)
		}
	}
}

// Promise 10.1: texts of eras that are told by name.
func TestTexts(t *testing.T) {
	until := api.Until{Year: 1893, Month: 4, On: api.Day{N: 1}}
	for _, c := range []struct {
		e    api.Era
		want string
	}{
		{api.Era{Std: 3600, Kind: api.EraRules, Rules: "EU", Format: "CE%sT"}, "1:00 EU CE%sT"},
		{api.Era{Std: 3208, Format: "LMT", Ends: true, Until: until}, "0:53:28 - LMT 1893 Apr"},
		{api.Era{Std: -12600, Kind: api.EraSave, Save: 3600, Format: "%z"}, "-3:30 1:00 %z"},
		{api.Era{Std: 0, Kind: api.EraSave, Save: -1200, Format: "GMT/IST"}, "0:00 -0:20 GMT/IST"},
		{api.Era{Kind: api.EraSave, Format: "A"}, "0:00 0:00 A"},
		{utc(), "0:00 - UTC"},
	} {
		if got, why := Text(c.e); strings.Join(got, " ") != c.want || why != api.OK {
			t.Errorf("Text(%v) is %q, %d, not %q", c.e, got, why, c.want)
		}
	}
}

// wrongEras is eras of which one part alone is not right.
func wrongEras() []api.Era {
	out := []api.Era{{}}
	put := func(change func(e *api.Era)) {
		out = append(out, with(utc(), change))
	}
	for _, sec := range farSeconds {
		put(func(e *api.Era) { e.Std = sec })
		put(func(e *api.Era) { e.Kind, e.Save = api.EraSave, sec })
		put(func(e *api.Era) { e.Save = sec })
	}
	put(func(e *api.Era) { e.Save = 1 })
	put(func(e *api.Era) { e.Rules = "EU" })
	put(func(e *api.Era) { e.Save, e.Rules = 3600, "EU" })
	put(func(e *api.Era) { e.Kind, e.Rules = api.EraSave, "EU" })
	put(func(e *api.Era) { e.Kind, e.Save, e.Rules = api.EraSave, 3600, "EU" })
	put(func(e *api.Era) { e.Kind, e.Save, e.Rules = api.EraRules, 3600, "EU" })
	put(func(e *api.Era) { e.Kind, e.Save, e.Rules = api.EraRules, -1, "EU" })
	for _, name := range []string{"", "-", "1", "1:00", "-1", "a b", "+a", "\u00e4", strings.Repeat("n", 65)} {
		put(func(e *api.Era) { e.Kind, e.Rules = api.EraRules, name })
	}
	for _, kind := range []api.EraKind{api.EraCount, api.EraCount + 1, 128, 255} {
		put(func(e *api.Era) { e.Kind = kind })
		put(func(e *api.Era) { e.Kind, e.Rules = kind, "EU" })
	}
	for _, format := range []string{"", " ", "%", "%s%s", "a/", "/a", "a/b/c", "%d", "a_b", strings.Repeat("F", 33)} {
		put(func(e *api.Era) { e.Format = format })
	}
	for _, until := range someUntils() {
		put(func(e *api.Era) { e.Until = until })
	}
	first := api.Day{N: 1}
	put(func(e *api.Era) { e.Until.Year = 1996 })
	put(func(e *api.Era) { e.Until.Month = 1 })
	put(func(e *api.Era) { e.Until.On.N = 1 })
	put(func(e *api.Era) { e.Until.At.Clock = 1 })
	for _, until := range []api.Until{
		{}, {Year: 0, Month: 1, On: first}, {Year: 10000, Month: 1, On: first}, {Year: 1996, Month: 0, On: first}, {Year: 1996, Month: 13, On: first}, {Year: 1996, Month: 1},
		{Year: 1996, Month: 1, On: api.Day{N: 32}}, {Year: 1996, Month: 1, On: first, At: api.Moment{Sec: week + 1}}, {Year: 1996, Month: 1, On: first, At: api.Moment{Clock: api.ClockCount}},
	} {
		put(func(e *api.Era) { e.Ends, e.Until = true, until })
	}
	return out
}

// Promise 10.1: eras that are not right.
func TestWrongEras(t *testing.T) {
	for _, e := range wrongEras() {
		if why := Check(e); why != api.ErrForm {
			t.Errorf("Check(%v) is %d", e, why)
		}
		if l, why := Text(e); len(l) != 0 || why != api.ErrForm {
			t.Errorf("Text(%v) is %q, %d", e, l, why)
		}
	}
}

// Promise 10.2: texts that are not as they would be written, and tell an era.
func TestParseOther(t *testing.T) {
	first := api.Day{N: 1}
	for s, want := range map[string]api.Era{
		"- - UTC":                    utc(),
		"-0 - UTC":                   utc(),
		"000:00:00 - UTC":            utc(),
		"1 0 A":                      {Std: 3600, Kind: api.EraSave, Format: "A"},
		"-1 -0 A":                    {Std: -3600, Kind: api.EraSave, Format: "A"},
		"- 001 A":                    {Kind: api.EraSave, Save: 3600, Format: "A"},
		"- -1:30:05 A":               {Kind: api.EraSave, Save: -5405, Format: "A"},
		"168 -168 A":                 {Std: week, Kind: api.EraSave, Save: -week, Format: "A"},
		"- _1 A":                     {Kind: api.EraRules, Rules: "_1", Format: "A"},
		"- a-1 A/B":                  {Kind: api.EraRules, Rules: "a-1", Format: "A/B"},
		"- - - 1":                    {Format: "-", Ends: true, Until: api.Until{Year: 1, Month: 1, On: first}},
		"- - A 1996 JANUARY 01 -":    {Format: "A", Ends: true, Until: api.Until{Year: 1996, Month: 1, On: first}},
		"1 EU A 0996 sept lastSu 1Z": {Std: 3600, Kind: api.EraRules, Rules: "EU", Format: "A", Ends: true, Until: api.Until{Year: 996, Month: 9, On: api.Day{Kind: api.DayLast}, At: api.Moment{Sec: 3600, Clock: api.ClockUniversal}}},
	} {
		if got, at, why := Parse(strings.Fields(s)); got != want || at != 0 || why != api.OK {
			t.Errorf("Parse(%q) is %v, %d, %d, not %v", s, got, at, why, want)
		}
	}
}

// berlin is the texts of an era, of which all are there.
func berlin() []string {
	return strings.Fields("1:00 SovietZone CE%sT 1946 Jan 1 2:00s")
}

// wrongText is a text that is none at its place, and why.
type wrongText struct {
	s   string
	why api.Errno
}

// wrongTexts has, for each place, texts that are none where all others are those of berlin.
func wrongTexts() [7][]wrongText {
	var out [7][]wrongText
	put := func(i int, why api.Errno, l ...string) {
		for _, s := range l {
			out[i] = append(out[i], wrongText{s, why})
		}
	}
	long := strings.Repeat("1", 5000)
	put(0, api.ErrSyntax, "", "x", "EU", "--", "+1", "1:0", "1:60", "1:00s", "1:00:00:00", "1000", "999:60", " 1", "1 ", "_", long)
	put(0, api.ErrRange, "169", "-169", "168:00:01", "-168:00:01", "999:59:59")
	put(1, api.ErrSyntax, "1:0", "-1:0", "1x", "-1x", "0a", "9_", "1:60", "1:00s", "1:00d", "-1:00:00:00", "1000", "-0000", "1-", "-1-", "999:60", long, "-"+long)
	put(1, api.ErrRange, "169", "-169", "168:00:01", "-168:00:01", "999:59:59")
	put(1, api.ErrName, "", "--", "--1", "-a", "-:", "- 1", "-+1", "+", "+1", "/1", "/", ":", ":00", "-/0", "a b", "\u00e4", "\u0661", "-\u0661", "%s", " 1", "EU ", strings.Repeat("n", 65), "-"+strings.Repeat("n", 5000))
	put(2, api.ErrSyntax, "", " ", "%", "%d", "%s%s", "%s%z", "a/", "/b", "a/b/c", "%s/b", "a_b", "a b", "\u00e4", strings.Repeat("F", 33), long)
	put(3, api.ErrSyntax, "", "0", "00001", "10000", "-1", "-", "x", "Jan", "max", "only", "1946a", " 1946", long)
	put(4, api.ErrName, "", "-", "1", "J", "Ju", "Janx", "x")
	put(5, api.ErrSyntax, "", "-", "0", "32", "001", "lastS", "Sun>=0", "Sun>8", "x")
	put(6, api.ErrSyntax, "", "x", "--", "2:0", "2:60", "2:00x", "1000")
	put(6, api.ErrRange, "169", "-168:00:01s")
	return out
}

// Promise 10.2: texts that tell no era: the place, among all of them, of the first one that is none, and why, whatever stands behind it.
func TestParseWrong(t *testing.T) {
	for i, wrong := range wrongTexts() {
		for _, w := range wrong {
			whole := berlin()
			whole[i] = w.s
			behind := append(slices.Clone(whole[:i+1]), "?", "?", "?", "?", "?", "?", "?")[:7]
			for _, l := range [][]string{whole, whole[:i+1], behind} {
				if got, at, why := Parse(l); got != (api.Era{}) || at != i || why != w.why {
					t.Errorf("Parse(%.80q) is %v, %d, %d, not %d, %d", l, got, at, why, i, w.why)
				}
			}
		}
	}
}

// Promise 10.2: of two texts that are none, the first one is told.
func TestParseFirst(t *testing.T) {
	all := wrongTexts()
	for i := range all {
		for j := i + 1; j < len(all); j++ {
			for _, w := range all[i] {
				for _, v := range all[j] {
					l := berlin()
					l[i], l[j] = w.s, v.s
					if got, at, why := Parse(l); got != (api.Era{}) || at != i || why != w.why {
						t.Fatalf("Parse(%.80q) is %v, %d, %d, not %d, %d", l, got, at, why, i, w.why)
					}
				}
			}
		}
	}
}

// Promise 10.2: too few texts, and too many.
func TestParseCount(t *testing.T) {
	for n := range 3 {
		if got, at, why := Parse(berlin()[:n]); got != (api.Era{}) || at != n || why != api.ErrShort {
			t.Errorf("Parse of %d texts is %v, %d, %d", n, got, at, why)
		}
	}
	if got, at, why := Parse(nil); got != (api.Era{}) || at != 0 || why != api.ErrShort {
		t.Errorf("Parse of none is %v, %d, %d", got, at, why)
	}
	for n := 3; n <= 7; n++ {
		e, at, why := Parse(berlin()[:n])
		if at != 0 || why != api.OK || e.Ends != (n > 3) || Check(e) != api.OK {
			t.Errorf("Parse of %d texts is %v, %d, %d", n, e, at, why)
		}
	}
	// That there are too many is told ahead of what is wrong in the until, as moment.ParseUntil tells it.
	for _, until := range [][]string{{"1946", "Jan", "1", "2:00s", ""}, {"x", "x", "x", "x", "x"}, make([]string, 5000)} {
		if got, at, why := Parse(append(berlin()[:3], until...)); got != (api.Era{}) || at != 7 || why != api.ErrLong {
			t.Errorf("Parse with an until of %d texts is %v, %d, %d", len(until), got, at, why)
		}
		if got, at, why := Parse(append([]string{"1:00", "EU", "%"}, until...)); got != (api.Era{}) || at != 2 || why != api.ErrSyntax {
			t.Errorf("Parse with a wrong format and an until of %d texts is %v, %d, %d", len(until), got, at, why)
		}
	}
}

// Promise 10.2: each byte ahead of a time: digits alone begin one, and letters and _ a name.
func TestParseBegins(t *testing.T) {
	for i := range 256 {
		c := byte(i)
		digit, letter := c >= '0' && c <= '9', c >= 'a' && c <= 'z' || c >= 'A' && c <= 'Z' || c == '_'
		want, why := api.Era{}, api.ErrName
		if letter {
			want, why = api.Era{Kind: api.EraRules, Rules: string([]byte{c, '1'}), Format: "A"}, api.OK
		}
		if digit || c == '-' {
			hours := int64(c-'0')*10 + 1
			if c == '-' {
				hours = -1
			}
			want, why = api.Era{Kind: api.EraSave, Save: hours * 3600, Format: "A"}, api.OK
		}
		check := func(s string, want api.Era, why api.Errno) {
			at := 0
			if why != api.OK {
				at = 1
			}
			if got, i, w := Parse([]string{"-", s, "A"}); got != want || i != at || w != why {
				t.Errorf("Parse with %q is %v, %d, %d, not %v, %d", s, got, i, w, want, why)
			}
		}
		check(string([]byte{c, '1'}), want, why)
		want, why = api.Era{}, api.ErrName
		if digit {
			want, why = api.Era{Kind: api.EraSave, Save: -3600 * int64(c-'0'), Format: "A"}, api.OK
		}
		check(string([]byte{'-', c}), want, why)
	}
}

// Promise 10.3: what is read is right, and is read again from its own texts.
func TestReadIsRight(t *testing.T) {
	for _, std := range []string{"-", "0", "-1", "1:30:05", "168"} {
		for _, saved := range []string{"-", "0", "-0:20", "1:00", "EU", "_"} {
			for _, format := range []string{"UTC", "%z", "A%sB", "A/B"} {
				for _, until := range []string{"", "1", "1996 d", "1996 Jan 01", "1996 Jan 1 -", "1996 feb lastSu 24z"} {
					l := append([]string{std, saved, format}, strings.Fields(until)...)
					e, at, why := Parse(l)
					if at != 0 || why != api.OK || Check(e) != api.OK {
						t.Fatalf("Parse(%q) is %v, %d, %d; Check is %d", l, e, at, why, Check(e))
					}
					again, _ := Text(e)
					if got, at, why := Parse(again); got != e || at != 0 || why != api.OK {
						t.Fatalf("Parse(%q) is %v, %d, %d, not %v", again, got, at, why, e)
					}
				}
			}
		}
	}
}

// Promises 10.1 and 10.2: texts that are handed in are not changed, and lists that are answered are not shared.
func TestKeepsTexts(t *testing.T) {
	all := append(strings.Fields("01 EU CE%sT 0996 JAN 01 -"), "behind")
	kept := slices.Clone(all)
	e, _, why := Parse(all[:7])
	if why != api.OK || !slices.Equal(all, kept) {
		t.Errorf("it is %d, the texts are %q", why, all)
	}
	a, _ := Text(e)
	for i := range a {
		a[i] = "x"
	}
	_ = append(a, "y")
	if b, _ := Text(e); !slices.Equal(b, strings.Fields("1:00 EU CE%sT 996")) {
		t.Errorf("the texts are %q", b)
	}
}
