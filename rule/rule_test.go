package rule

import (
	"fmt"
	"math"
	"regexp"
	"slices"
	"strconv"
	"strings"
	"testing"

	"solstice/api"
	"solstice/clock"
	"solstice/day"
	"solstice/moment"
)

const (
	longest = 64     // bytes of a name
	week    = 604800 // seconds that are saved, at most
	texts   = 9      // of a rule
)

var (
	monthTexts = strings.Fields("Jan Feb Mar Apr May Jun Jul Aug Sep Oct Nov Dec")
	rightName  = regexp.MustCompile(`\A[a-zA-Z_][a-zA-Z0-9_+/-]{0,63}\z`)
)

// euro is the texts of a rule.
func euro() []string {
	return strings.Fields("EU 1981 max - Mar lastSun 1:00u 1:00 S")
}

// euroRule is that rule.
func euroRule() api.Rule {
	return api.Rule{
		Name: "EU", From: 1981, To: 9999, Month: 3, On: api.Day{Kind: api.DayLast}, At: api.Moment{Sec: 3600, Clock: api.ClockUniversal}, Save: 3600, Letter: "S",
	}
}

// with is a copy of l that has s at the place i.
func with(l []string, i int, s string) []string {
	l = slices.Clone(l)
	l[i] = s
	return l
}

// Promise 9.1: names of few bytes, and each byte in all places, against another way of telling which are right.
func TestNameBytes(t *testing.T) {
	for i := range 256 {
		for j := range 256 {
			for _, s := range []string{string([]byte{byte(i), byte(j)}), string([]byte{'A', byte(i), byte(j)}), string([]byte{byte(i), 'z', byte(j)})} {
				if got, want := Name(s), rightName.MatchString(s); got != want {
					t.Errorf("Name(%q) is %v", s, got)
				}
			}
		}
		c := string([]byte{byte(i)})
		if got, want := Name(c), rightName.MatchString(c); got != want {
			t.Errorf("Name(%q) is %v", c, got)
		}
	}
}

// Promise 9.1: names of each length, up to the greatest and above it.
func TestNameLengths(t *testing.T) {
	for n := range 3 * longest {
		s := strings.Repeat("A", n)
		if got, want := Name(s), n >= 1 && n <= longest; got != want {
			t.Errorf("Name of %d bytes is %v", n, got)
		}
	}
	for _, s := range []string{strings.Repeat("A", 1<<20), "A" + strings.Repeat("/", longest), strings.Repeat("A", longest-1) + ".", strings.Repeat("A", longest-1) + "\u00e4"} {
		if Name(s) {
			t.Errorf("Name of %d bytes is true", len(s))
		}
	}
}

// Promise 9.1: names that are told by name, and such as are none.
func TestNameNamed(t *testing.T) {
	for _, s := range []string{"EU", "a", "Z", "_", "__", "A0", "Europe/Berlin", "America/Port-au-Prince", "Etc/GMT+1", "Etc/GMT-14", "_1", "a/", "a//b", "a-", "a+", strings.Repeat("z", longest)} {
		if !Name(s) {
			t.Errorf("%q is no name", s)
		}
	}
	for _, s := range []string{"", " ", "0", "1a", "-", "-a", "+", "+a", "/", "/a", "a b", " a", "a ", "a.b", "a%s", "a\x00", "a\n", "a:b", "a@", "a[", "a`", "a{", "\u00e4", "a\u00e4", "a\u212a", "\uff21", "\xff"} {
		if Name(s) {
			t.Errorf("%q is a name", s)
		}
	}
}

// someRules is rules that are right: each of many values with others by turns.
func someRules() []api.Rule {
	names := []string{"EU", "_", "a+b-c/9_Z", strings.Repeat("n", longest)}
	years := [][2]int{{1, 1}, {1, 2}, {1, 9999}, {9998, 9999}, {9999, 9999}, {9998, 9998}, {9, 10}, {99, 100}, {999, 1000}, {1916, 1918}, {1996, 9998}, {2026, 2026}}
	days := []api.Day{
		{Kind: api.DayFixed, N: 1}, {Kind: api.DayFixed, N: 31}, {Kind: api.DayLast, Dow: 0}, {Kind: api.DayLast, Dow: 6},
		{Kind: api.DayFrom, N: 8, Dow: 0}, {Kind: api.DayFrom, N: 31, Dow: 6}, {Kind: api.DayUpto, N: 1, Dow: 1}, {Kind: api.DayUpto, N: 25, Dow: 5},
	}
	seconds := []int64{0, 1, -1, 3600, -3600, 7200, 1201, 86400, week, -week}
	letters := []string{"", "S", "DD", "--", "-00", "+", strings.Repeat("L", 32)}
	var out []api.Rule
	n := 0
	for _, years := range years {
		for month := 1; month <= 12; month++ {
			for _, on := range days {
				for _, save := range seconds {
					n++
					out = append(out, api.Rule{
						Name: names[n%len(names)], From: years[0], To: years[1], Month: month, On: on,
						At: api.Moment{Sec: seconds[n/7%len(seconds)], Clock: api.ClockKind(n % 3)}, Save: save, Letter: letters[n%len(letters)],
					})
				}
			}
		}
	}
	return out
}

// textsOf is the texts of a right rule, found in another way.
func textsOf(r api.Rule) []string {
	on, _ := day.Text(r.On)
	to, letter := fmt.Sprint(r.To), r.Letter
	if r.To == 9999 {
		to = "max"
	}
	if r.To == r.From {
		to = "only"
	}
	if letter == "" {
		letter = "-"
	}
	at := clock.Text(r.At.Sec) + []string{"", "s", "u"}[r.At.Clock]
	return []string{r.Name, fmt.Sprint(r.From), to, "-", monthTexts[r.Month-1], on, at, clock.Text(r.Save), letter}
}

// Promises 9.1 and 9.3: rules that are right are so, have their texts, and are read from them.
func TestRightRules(t *testing.T) {
	for _, r := range someRules() {
		want := textsOf(r)
		l, why := Text(r)
		if !slices.Equal(l, want) || why != api.OK || Check(r) != api.OK {
			t.Fatalf("Text(%v) is %q, %d, not %q; Check is %d", r, l, why, want, Check(r))
		}
		if got, at, why := Parse(l); got != r || at != 0 || why != api.OK {
			t.Fatalf("Parse(%q) is %v, %d, %d, not %v", l, got, at, why, r)
		}
	}
}

// Promises 9.1 and 9.3: every year as the first one, and as the last one.
func TestYears(t *testing.T) {
	for y := 1; y <= 9999; y++ {
		for _, years := range [][2]int{{1, y}, {y, y}, {y, 9999}} {
			r := euroRule()
			r.From, r.To = years[0], years[1]
			want := textsOf(r)
			l, why := Text(r)
			if !slices.Equal(l, want) || why != api.OK {
				t.Fatalf("Text(%v) is %q, %d, not %q", r, l, why, want)
			}
			if got, at, why := Parse(l); got != r || at != 0 || why != api.OK {
				t.Fatalf("Parse(%q) is %v, %d, %d", l, got, at, why)
			}
			last := with(l, 2, strconv.Itoa(y))
			r.To = y
			if got, at, why := Parse(last); years[0] <= y && (got != r || at != 0 || why != api.OK) {
				t.Fatalf("Parse(%q) is %v, %d, %d", last, got, at, why)
			}
		}
	}
}

// Promise 9.1: texts of rules that are told by name.
func TestTexts(t *testing.T) {
	for _, c := range []struct {
		r    api.Rule
		want string
	}{
		{euroRule(), "EU 1981 max - Mar lastSun 1:00u 1:00 S"},
		{api.Rule{Name: "US", From: 1967, To: 2006, Month: 10, On: api.Day{Kind: api.DayLast}, At: api.Moment{Sec: 7200}}, "US 1967 2006 - Oct lastSun 2:00 0:00 -"},
		{api.Rule{Name: "_", From: 1, To: 1, Month: 1, On: api.Day{N: 1}}, "_ 1 only - Jan 1 0:00 0:00 -"},
		{api.Rule{Name: "A", From: 9999, To: 9999, Month: 12, On: api.Day{N: 31}, At: api.Moment{Sec: 86400, Clock: api.ClockStandard}, Save: -3600, Letter: "GMT"}, "A 9999 only - Dec 31 24:00s -1:00 GMT"},
		{api.Rule{Name: "A/B", From: 9998, To: 9999, Month: 6, On: api.Day{Kind: api.DayUpto, N: 25, Dow: 5}, Save: 1201, Letter: "--"}, "A/B 9998 max - Jun Fri<=25 0:00 0:20:01 --"},
	} {
		if got, why := Text(c.r); strings.Join(got, " ") != c.want || why != api.OK {
			t.Errorf("Text(%v) is %q, %d, not %q", c.r, got, why, c.want)
		}
	}
}

// wrongRules is rules of which one part alone is not right.
func wrongRules() []api.Rule {
	out := []api.Rule{{}}
	put := func(change func(r *api.Rule)) {
		r := euroRule()
		change(&r)
		out = append(out, r)
	}
	for _, s := range []string{"", "1", "-", "a b", "\u00e4", strings.Repeat("A", longest+1)} {
		put(func(r *api.Rule) { r.Name = s })
	}
	for _, y := range []int{0, -1, 10000, math.MinInt, math.MaxInt} {
		put(func(r *api.Rule) { r.From = y })
		put(func(r *api.Rule) { r.To = y })
		put(func(r *api.Rule) { r.From, r.To = y, y })
	}
	put(func(r *api.Rule) { r.To = 1980 })
	put(func(r *api.Rule) { r.From, r.To = 9999, 1 })
	put(func(r *api.Rule) { r.From, r.To = 0, 1 })
	put(func(r *api.Rule) { r.From, r.To = 9999, 10000 })
	for _, m := range []int{0, -1, 13, math.MinInt, math.MaxInt} {
		put(func(r *api.Rule) { r.Month = m })
	}
	for _, d := range []api.Day{{}, {N: 32}, {N: 1, Dow: 1}, {Kind: api.DayLast, N: 1}, {Kind: api.DayFrom, N: 1, Dow: 7}, {Kind: api.DayUpto}, {Kind: api.DayCount, N: 1}} {
		put(func(r *api.Rule) { r.On = d })
	}
	for _, sec := range []int64{week + 1, -week - 1, math.MinInt64, math.MaxInt64, 1 << 32, -1 << 32} {
		put(func(r *api.Rule) { r.At.Sec = sec })
		put(func(r *api.Rule) { r.Save = sec })
	}
	put(func(r *api.Rule) { r.At.Clock = api.ClockCount })
	put(func(r *api.Rule) { r.At.Clock = 255 })
	for _, s := range []string{"-", " ", "%s", "a/b", "\u00e4", strings.Repeat("A", 33)} {
		put(func(r *api.Rule) { r.Letter = s })
	}
	return out
}

// Promise 9.1: rules that are not right.
func TestWrongRules(t *testing.T) {
	for _, r := range wrongRules() {
		if why := Check(r); why != api.ErrForm {
			t.Errorf("Check(%v) is %d", r, why)
		}
		if l, why := Text(r); len(l) != 0 || why != api.ErrForm {
			t.Errorf("Text(%v) is %q, %d", r, l, why)
		}
	}
	// A day that no such month has is right nevertheless.
	r := euroRule()
	r.Month, r.On = 2, api.Day{N: 31}
	if why := Check(r); why != api.OK {
		t.Errorf("the 31st of February is %d", why)
	}
}

// Promise 9.2: texts that are not as they would be written, and tell a rule.
func TestParseOther(t *testing.T) {
	fixed := api.Day{N: 1}
	for s, want := range map[string]api.Rule{
		"EU 1981 9999 - Mar lastSun 1:00u 1:00 S":         euroRule(),
		"EU 1981 m - MARCH LASTsunday 01z 1 S":            euroRule(),
		"EU 1981 maximum - mar lastSu 1:00:00g 1:00:00 S": euroRule(),
		"EU 1981 MAXI - mar lastSu 1G 001 S":              euroRule(),
		"eu 01 o - d 01 - - -":                            {Name: "eu", From: 1, To: 1, Month: 12, On: fixed},
		"eu 0001 ONLY - o 1 0s -0 -":                      {Name: "eu", From: 1, To: 1, Month: 10, On: fixed, At: api.Moment{Clock: api.ClockStandard}},
		"eu 9 on - f 1 -0:00 0:00 x":                      {Name: "eu", From: 9, To: 9, Month: 2, On: fixed, Letter: "x"},
		"eu 9999 max - Feb 31 -168 -168 -00":              {Name: "eu", From: 9999, To: 9999, Month: 2, On: api.Day{N: 31}, At: api.Moment{Sec: -week}, Save: -week, Letter: "-00"},
		"eu 9999 9999 - Jun Sun>=08 168w 168 --":          {Name: "eu", From: 9999, To: 9999, Month: 6, On: api.Day{Kind: api.DayFrom, N: 8}, At: api.Moment{Sec: week}, Save: week, Letter: "--"},
		"eu 1 0001 - may wed<=01 24 0:20:01 z":            {Name: "eu", From: 1, To: 1, Month: 5, On: api.Day{Kind: api.DayUpto, N: 1, Dow: 3}, At: api.Moment{Sec: 86400}, Save: 1201, Letter: "z"},
	} {
		if got, at, why := Parse(strings.Fields(s)); got != want || at != 0 || why != api.OK {
			t.Errorf("Parse(%q) is %v, %d, %d, not %v", s, got, at, why, want)
		}
	}
	want := euroRule()
	want.Letter = ""
	if got, at, why := Parse(with(euro(), texts-1, "")); got != want || at != 0 || why != api.OK {
		t.Errorf("with an empty letter it is %v, %d, %d", got, at, why)
	}
}

// wrongText is a text that is none at its place, and why.
type wrongText struct {
	s   string
	why api.Errno
}

// wrongTexts has, for each place, texts that are none where all others are those of euro.
func wrongTexts() [texts][]wrongText {
	long := strings.Repeat("1", 5000)
	var out [texts][]wrongText
	put := func(i int, why api.Errno, l ...string) {
		for _, s := range l {
			out[i] = append(out[i], wrongText{s, why})
		}
	}
	put(0, api.ErrName, "", "1", "-", "+a", "/", "a b", "\u00e4", "a.b", strings.Repeat("A", longest+1), long)
	years := []string{"", "0", "0000", "00001", "10000", "-1", "+1", "-", " 1981", "1981 ", "1981a", "x", "1.", "/", ":", "0x1", "1_0", "199\u0666", "18446744073709551617", long}
	put(1, api.ErrSyntax, years...)
	put(1, api.ErrSyntax, "only", "o", "max", "maximum", "m", "minimum", "Jan")
	put(2, api.ErrSyntax, years...)
	put(2, api.ErrSyntax, "onlyx", "nly", "maximumx", "maxx", "min", "minimum", "max ", " only", "x", "only-", "2000max")
	put(2, api.ErrOrder, "1", "01", "0001", "1980", "999")
	put(3, api.ErrSyntax, "", "--", "- ", " -", "x", "\u2212", "\u2013", "0", "even")
	put(4, api.ErrName, "", "-", "3", "03", "J", "Ju", "Ma", "A", "M", "Marx", "Marchx", " Mar", "x")
	put(5, api.ErrSyntax, "", "-", "0", "32", "001", "lastS", "lastT", "last", "Sun", "Sun>8", "Sun>=", "Sun>=0", "Sun>=32", "Sun=>8", ">=8", "S<=8", "lastSun ", "x")
	put(6, api.ErrSyntax, "", "x", "--", "1:0", "1:60", "1:00x", "1:00ss", "1:00:00:00", "1000", "999:60", "+1", "s")
	put(6, api.ErrRange, "169", "168:00:01", "-168:00:01s", "999:59:59u")
	put(7, api.ErrSyntax, "", "x", "--", "1:0", "1:60", "1:00s", "1:00w", "1:00u", "1:00d", "1:00:00:00", "1000", "+1", "999:60")
	put(7, api.ErrRange, "169", "168:00:01", "-168:00:01", "999:59:59")
	put(8, api.ErrSyntax, " ", "%s", "/", "a/b", "a b", "_", "S.", "\u00e4", "S\n", strings.Repeat("A", 33), long)
	return out
}

// Promise 9.2: texts that tell no rule: the place of the first one that is none, and why, whatever stands behind it.
func TestParseWrong(t *testing.T) {
	for i, wrong := range wrongTexts() {
		for _, w := range wrong {
			l := with(euro(), i, w.s)
			for _, l := range [][]string{l, l[:i+1], append(slices.Clone(l), "x"), append(slices.Clone(l[:i+1]), make([]string, texts)...), append(slices.Clone(l[:i+1]), "?", "?", "?", "?", "?", "?", "?", "?")} {
				if got, at, why := Parse(l); got != (api.Rule{}) || at != i || why != w.why {
					t.Errorf("Parse(%.80q) is %v, %d, %d, not %d, %d", l, got, at, why, i, w.why)
				}
			}
		}
	}
}

// Promise 9.2: of two texts that are none, the first one is told.
func TestParseFirst(t *testing.T) {
	all := wrongTexts()
	for i := range texts {
		for j := i + 1; j < texts; j++ {
			for _, w := range all[i] {
				for _, v := range all[j] {
					l := with(with(euro(), j, v.s), i, w.s)
					if got, at, why := Parse(l); got != (api.Rule{}) || at != i || why != w.why {
						t.Fatalf("Parse(%.80q) is %v, %d, %d, not %d, %d", l, got, at, why, i, w.why)
					}
				}
			}
		}
	}
}

// Promise 9.2: too few texts, and too many.
func TestParseCount(t *testing.T) {
	for n := range texts {
		for _, l := range [][]string{euro()[:n], euro()[:n:n]} {
			if got, at, why := Parse(l); got != (api.Rule{}) || at != n || why != api.ErrShort {
				t.Errorf("Parse of %d texts is %v, %d, %d", n, got, at, why)
			}
		}
	}
	if got, at, why := Parse(nil); got != (api.Rule{}) || at != 0 || why != api.ErrShort {
		t.Errorf("Parse of none is %v, %d, %d", got, at, why)
	}
	for _, more := range [][]string{{""}, {"-"}, {"x", "y"}, make([]string, 5000)} {
		if got, at, why := Parse(append(euro(), more...)); got != (api.Rule{}) || at != texts || why != api.ErrLong {
			t.Errorf("Parse of %d texts more is %v, %d, %d", len(more), got, at, why)
		}
	}
}

// Promise 9.2: the last year, with all that it may be, by the first year.
func TestParseTo(t *testing.T) {
	for _, from := range []int{1, 2, 999, 1981, 9998, 9999} {
		for _, to := range []int{1, 2, 998, 999, 1000, 1980, 1981, 1982, 9997, 9998, 9999} {
			want, at, why := euroRule(), 0, api.OK
			want.From, want.To = from, to
			if to < from {
				want, at, why = api.Rule{}, 2, api.ErrOrder
			}
			l := with(with(euro(), 1, strconv.Itoa(from)), 2, strconv.Itoa(to))
			if got, i, w := Parse(l); got != want || i != at || w != why {
				t.Errorf("Parse(%q) is %v, %d, %d", l, got, i, w)
			}
		}
		for n := range len("maximum") {
			want := euroRule()
			want.From, want.To = from, 9999
			l := with(with(euro(), 1, strconv.Itoa(from)), 2, "mAxImUm"[:n+1])
			if got, at, why := Parse(l); got != want || at != 0 || why != api.OK {
				t.Errorf("Parse(%q) is %v, %d, %d", l, got, at, why)
			}
		}
		for n := range len("only") {
			want := euroRule()
			want.From, want.To = from, from
			l := with(with(euro(), 1, strconv.Itoa(from)), 2, "OnLy"[:n+1])
			if got, at, why := Parse(l); got != want || at != 0 || why != api.OK {
				t.Errorf("Parse(%q) is %v, %d, %d", l, got, at, why)
			}
		}
	}
}

// Promise 9.3: what is read is right, and is read again from its own texts.
func TestReadIsRight(t *testing.T) {
	choices := [texts][]string{
		{"EU", "_"}, {"1", "1981", "9999"}, {"only", "max", "9999"}, {"-"}, {"Jan", "December"}, {"1", "lastFri", "Sun>=8"},
		{"-", "0", "2:00s", "-168z"}, {"-", "0", "1:00", "-1:30:05"}, {"-", "S", "--", ""},
	}
	lists := [][]string{{}}
	for _, choice := range choices {
		var longer [][]string
		for _, l := range lists {
			for _, s := range choice {
				longer = append(longer, append(slices.Clone(l), s))
			}
		}
		lists = longer
	}
	for _, l := range lists {
		r, at, why := Parse(l)
		if at != 0 || why != api.OK || Check(r) != api.OK {
			t.Fatalf("Parse(%q) is %v, %d, %d; Check is %d", l, r, at, why, Check(r))
		}
		again, _ := Text(r)
		if got, at, why := Parse(again); got != r || at != 0 || why != api.OK {
			t.Fatalf("Parse(%q) is %v, %d, %d, not %v", again, got, at, why, r)
		}
		on, _ := day.Parse(l[5])
		when, _ := moment.Parse(l[6])
		if r.On != on || r.At != when {
			t.Fatalf("Parse(%q) is %v", l, r)
		}
	}
}

// Promises 9.1 and 9.2: texts that are handed in are not changed, and lists that are answered are not shared.
func TestKeepsTexts(t *testing.T) {
	all := strings.Fields("EU 1981 max - MARCH lastsun 01z 1 S behind")
	kept := slices.Clone(all)
	r, _, _ := Parse(all[:texts])
	if r != euroRule() || !slices.Equal(all, kept) {
		t.Errorf("the rule is %v, the texts are %q", r, all)
	}
	a, _ := Text(r)
	a[0] = "x"
	_ = append(a, "y")
	if b, _ := Text(r); !slices.Equal(b, euro()) {
		t.Errorf("the texts are %q", b)
	}
}
