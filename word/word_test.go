package word

import (
	"math"
	"strings"
	"testing"
)

var (
	monthNames   = strings.Fields("January February March April May June July August September October November December")
	weekdayNames = strings.Fields("Sunday Monday Tuesday Wednesday Thursday Friday Saturday")
)

// mixed is s in small letters, in great ones, and in both by turns.
func mixed(s string) []string {
	turns := []byte(strings.ToLower(s))
	for i := 1; i < len(turns); i += 2 {
		turns[i] = strings.ToUpper(string(turns[i]))[0]
	}
	return []string{s, strings.ToLower(s), strings.ToUpper(s), string(turns)}
}

// meant is which of the names a word means, found in another way: 0 if none.
func meant(s string, names []string) int {
	var begun []int
	for i, name := range names {
		if strings.EqualFold(s, name) {
			return i + 1
		}
		if len(s) <= len(name) && strings.EqualFold(s, name[:len(s)]) {
			begun = append(begun, i+1)
		}
	}
	if s == "" || len(begun) != 1 {
		return 0
	}
	return begun[0]
}

// Promise 5.1: letters are alike but for their size, and bytes that are no letters are what they are.
func TestSame(t *testing.T) {
	for a := range 256 {
		for b := range 256 {
			x, y := byte(a), byte(b)
			low, high := min(x, y), max(x, y)
			want := a == b || low >= 'A' && low <= 'Z' && high-low == 32
			if got := Same("a"+string([]byte{x}), "A"+string([]byte{y})); got != want {
				t.Errorf("Same(a%q, A%q) is %v", x, y, got)
			}
		}
	}
}

// Promise 5.1: words that are one, and words that are not.
func TestSameWords(t *testing.T) {
	for _, c := range []struct {
		a, b string
		want bool
	}{
		{"", "", true},
		{"", "a", false},
		{"a", "", false},
		{"a", "ab", false},
		{"ab", "a", false},
		{"Europe/Berlin", "eUROPE/bERLIN", true},
		{"Europe/Berlin", "Europe/Berlim", false},
		{"\u00e9", "\u00c9", false},
		{"k", "\u212a", false},
		{"s", "\u017f", false},
		{"\xff\x00a", "\xff\x00A", true},
		{"a ", "a", false},
	} {
		if got := Same(c.a, c.b); got != c.want {
			t.Errorf("Same(%q, %q) is %v", c.a, c.b, got)
		}
	}
}

// Promise 5.1: the first name that a word is, else the only one that begins with it.
func TestPick(t *testing.T) {
	for _, c := range []struct {
		s     string
		names []string
		want  int
	}{
		{"a", nil, -1},
		{"", nil, -1},
		{"", []string{""}, -1},
		{"", []string{"a"}, -1},
		{"a", []string{""}, -1},
		{"a", []string{"", "A"}, 1},
		{"a", []string{"ab"}, 0},
		{"a", []string{"b", "AB"}, 1},
		{"a", []string{"ab", "ac"}, -1},
		{"a", []string{"ab", "b", "ac"}, -1},
		{"a", []string{"ab", "ab"}, -1},
		{"a", []string{"ab", "ac", "ad"}, -1},
		{"a", []string{"ab", "ac", "a"}, 2},
		{"a", []string{"ab", "A", "a"}, 1},
		{"A", []string{"a", "a"}, 0},
		{"ab", []string{"ab", "abc"}, 0},
		{"ab", []string{"abc", "AB"}, 1},
		{"abc", []string{"ab", "a"}, -1},
		{"ac", []string{"ab", "acd", "b"}, 1},
		{"b", []string{"ab"}, -1},
		{" a", []string{"a"}, -1},
		{"a ", []string{"a", "ab"}, -1},
		{"\xff", []string{"\xff\xfe", "\xfe"}, 0},
	} {
		if got := Pick(c.s, c.names...); got != c.want {
			t.Errorf("Pick(%q, %q) is %d, not %d", c.s, c.names, got, c.want)
		}
	}
}

// Promise 5.1: names that are handed in are not changed.
func TestPickKeepsNames(t *testing.T) {
	names := []string{"Ab", "aC"}
	Pick("AC", names...)
	if names[0] != "Ab" || names[1] != "aC" {
		t.Errorf("the names are %q", names)
	}
}

// words is all words of up to four small letters that begin a name, with one letter more or other, and some that are none.
func words(names []string) []string {
	out := []string{"", " ", "-", "x", "1", "0", "\x00", "\xff", "\u00e9"}
	for _, name := range names {
		for n := range len(name) + 1 {
			for _, s := range mixed(name[:n]) {
				out = append(out, s, s+"x", s+" ", " "+s, s+".", s+"\x00", s+s)
			}
			for c := byte('a'); c <= 'z'; c++ {
				out = append(out, name[:n]+string(c))
			}
		}
	}
	return out
}

// Promise 5.2: which month a word means, and which day of the week.
func TestMonthWeekday(t *testing.T) {
	for _, s := range append(words(monthNames), words(weekdayNames)...) {
		if got, want := Month(s), meant(s, monthNames); got != want {
			t.Errorf("Month(%q) is %d, not %d", s, got, want)
		}
		if got, want := Weekday(s), meant(s, weekdayNames)-1; got != want {
			t.Errorf("Weekday(%q) is %d, not %d", s, got, want)
		}
	}
}

// Promise 5.2: a beginning of several names means none, and the shortest ones of one alone.
func TestShortest(t *testing.T) {
	for s, want := range map[string]int{
		"j": 0, "ja": 1, "f": 2, "m": 0, "ma": 0, "mar": 3, "a": 0, "ap": 4, "may": 5, "mayo": 0, "ju": 0, "jun": 6, "jul": 7, "au": 8,
		"s": 9, "o": 10, "n": 11, "d": 12, "December": 12, "Decembers": 0, "": 0,
	} {
		if got := Month(s); got != want {
			t.Errorf("Month(%q) is %d, not %d", s, got, want)
		}
	}
	for s, want := range map[string]int{
		"s": -1, "su": 0, "m": 1, "t": -1, "tu": 2, "w": 3, "th": 4, "f": 5, "sa": 6, "SATURDAY": 6, "Saturdays": -1, "": -1,
	} {
		if got := Weekday(s); got != want {
			t.Errorf("Weekday(%q) is %d, not %d", s, got, want)
		}
	}
}

// Promise 5.2: which front word a word means.
func TestKeyword(t *testing.T) {
	names := []string{"Rule", "Zone", "Link"}
	for _, s := range append(words(names), "rulez", "o", "inc") {
		if got, want := Keyword(s), meant(s, names); got != want {
			t.Errorf("Keyword(%q) is %d, not %d", s, got, want)
		}
	}
	for s, want := range map[string]int{"Rule": 1, "Zone": 2, "Link": 3, "r": 1, "Z": 2, "lI": 3, "Rules": 0, "": 0, "-": 0} {
		if got := Keyword(s); got != want {
			t.Errorf("Keyword(%q) is %d, not %d", s, got, want)
		}
	}
}

// Promise 5.3: the texts of months and of days of the week, and none for such as there are not.
func TestTexts(t *testing.T) {
	for m := -100; m <= 100; m++ {
		want := ""
		if m >= 1 && m <= 12 {
			want = monthNames[m-1][:3]
		}
		if got := MonthText(m); got != want {
			t.Errorf("MonthText(%d) is %q, not %q", m, got, want)
		}
		want = ""
		if m >= 0 && m <= 6 {
			want = weekdayNames[m][:3]
		}
		if got := WeekdayText(m); got != want {
			t.Errorf("WeekdayText(%d) is %q, not %q", m, got, want)
		}
	}
	for _, m := range []int{math.MinInt, math.MinInt + 1, math.MinInt32, math.MaxInt32, math.MaxInt} {
		if MonthText(m) != "" || WeekdayText(m) != "" {
			t.Errorf("there is a text of %d", m)
		}
	}
}

// Promise 5.4: each month and each day of the week is meant by its text, and by each longer beginning.
func TestThereAndBack(t *testing.T) {
	for i, name := range monthNames {
		for n := 3; n <= len(name); n++ {
			for _, s := range mixed(name[:n]) {
				if got := Month(s); got != i+1 || Month(MonthText(got)) != i+1 {
					t.Errorf("Month(%q) is %d, not %d", s, got, i+1)
				}
			}
		}
	}
	for i, name := range weekdayNames {
		for n := 3; n <= len(name); n++ {
			for _, s := range mixed(name[:n]) {
				if got := Weekday(s); got != i || Weekday(WeekdayText(got)) != i {
					t.Errorf("Weekday(%q) is %d, not %d", s, got, i)
				}
			}
		}
	}
}
