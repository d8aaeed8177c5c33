package abbr

import (
	"fmt"
	"math"
	"regexp"
	"strings"
	"testing"

	"solstice/api"
)

const (
	most  = 32     // bytes of a format, and of a letter
	first = 360000 // the first offset that has no text
	signs = "abcdefghijklmnopqrstuvwxyzABCDEFGHIJKLMNOPQRSTUVWXYZ0123456789+-"
)

var rightFormat = regexp.MustCompile(`\A(?:[a-zA-Z0-9+-]*(?:%[sz])?[a-zA-Z0-9+-]*|[a-zA-Z0-9+-]+/[a-zA-Z0-9+-]+)\z`)

// whyFormat tells in another way whether a format is right.
func whyFormat(s string) api.Errno {
	if len(s) >= 1 && len(s) <= most && rightFormat.MatchString(s) {
		return api.OK
	}
	return api.ErrForm
}

// whyLetter tells in another way whether a letter is right.
func whyLetter(s string) api.Errno {
	if len(s) <= most && s != "-" && strings.Trim(s, signs) == "" {
		return api.OK
	}
	return api.ErrForm
}

// texts is all texts of up to five of some bytes.
func texts() []string {
	out := []string{""}
	for begin, n := 0, 0; n < 5; n++ {
		end := len(out)
		for _, s := range out[begin:end] {
			for _, c := range []string{"A", "s", "z", "-", "%", "/", " "} {
				out = append(out, s+c)
			}
		}
		begin = end
	}
	return out
}

// Promise 8.1: formats and letters of few bytes, against another way of telling which are right.
func TestCheckShort(t *testing.T) {
	for _, s := range texts() {
		if got, want := Check(s), whyFormat(s); got != want {
			t.Errorf("Check(%q) is %d, not %d", s, got, want)
		}
		if got, want := CheckLetter(s), whyLetter(s); got != want {
			t.Errorf("CheckLetter(%q) is %d, not %d", s, got, want)
		}
	}
}

// Promise 8.1: each byte, alone, and in all places of formats and letters.
func TestCheckBytes(t *testing.T) {
	for i := range 256 {
		c := string([]byte{byte(i)})
		want := api.ErrForm
		if strings.Contains(signs, c) {
			want = api.OK
		}
		for _, s := range []string{c + "A", "A" + c, "A" + c + "A", c + c} {
			if got := CheckLetter(s); got != want {
				t.Errorf("CheckLetter(%q) is %d, not %d", s, got, want)
			}
		}
		for _, s := range []string{c, c + c, c + "%s", "%s" + c, c + "%z", "%z" + c, c + "/A", "A/" + c, "A" + c + "/A", "A/A" + c} {
			if got := Check(s); got != want {
				t.Errorf("Check(%q) is %d, not %d", s, got, want)
			}
		}
	}
}

// Promise 8.1: formats that are right, and such as are not.
func TestCheck(t *testing.T) {
	for _, s := range []string{"UTC", "C%sT", "%s", "%z", "GMT/BST", "+03/+04", "-", "-00", "+", "1", "A%z", "%zA", "%sss", "%ss", "-/-", "E%zT", "a/b"} {
		if why := Check(s); why != api.OK {
			t.Errorf("Check(%q) is %d", s, why)
		}
	}
	for _, s := range []string{
		"", " ", "%", "/", "%%", "%S", "%Z", "%d", "%a", "A%", "%s%s", "%z%z", "%s%z", "%z%s", "%A%s", "%sA%s", "%%s", "%s%", "s%", "z%s%",
		"/A", "A/", "//", "A//B", "A/B/C", "A/B/", "/A/B", "%s/A", "A/%s", "%z/A", "A/%z", "A%s/B", "A/B%z", "%/s", "/%s", "%s/", "A_B", "A.B", "A B", "A\x00", "\u00c4", "\uff21",
	} {
		if why := Check(s); why != api.ErrForm {
			t.Errorf("Check(%q) is %d", s, why)
		}
	}
}

// Promise 8.1: formats and letters of each length, up to the greatest and above it.
func TestCheckLengths(t *testing.T) {
	for n := range 100 {
		s := strings.Repeat("A", n)
		if got, want := Check(s), whyFormat(s); got != want {
			t.Errorf("Check of %d signs is %d, not %d", n, got, want)
		}
		if got, want := CheckLetter(s), whyLetter(s); got != want {
			t.Errorf("CheckLetter of %d signs is %d, not %d", n, got, want)
		}
		for _, mark := range []string{"%s", "%z", "/B"} {
			want := api.OK
			if n > most-2 || n == 0 && mark == "/B" {
				want = api.ErrForm
			}
			if got := Check(s + mark); got != want {
				t.Errorf("Check of %d signs and %s is %d, not %d", n, mark, got, want)
			}
		}
	}
	long := strings.Repeat("A", 1<<20)
	if Check(long) != api.ErrForm || CheckLetter(long) != api.ErrForm || Check(long+"/"+long) != api.ErrForm {
		t.Errorf("a long text is right")
	}
}

// Promise 8.1: letters that are right, and such as are not.
func TestCheckLetter(t *testing.T) {
	for _, s := range []string{"", "S", "D", "GHST", "--", "-A", "A-", "+", "-00", "0", "s", "z"} {
		if why := CheckLetter(s); why != api.OK {
			t.Errorf("CheckLetter(%q) is %d", s, why)
		}
	}
	for _, s := range []string{"-", " ", "A B", "%s", "%", "/", "A/B", "_", ".", "\x00", "\xff", "\u00df", "A\n"} {
		if why := CheckLetter(s); why != api.ErrForm {
			t.Errorf("CheckLetter(%q) is %d", s, why)
		}
	}
}

// textOf is the text of an offset that has one, found in another way.
func textOf(off int64) string {
	sign, n := "+", off
	if off < 0 {
		sign, n = "-", -off
	}
	switch {
	case n%60 != 0:
		return fmt.Sprintf("%s%02d%02d%02d", sign, n/3600, n/60%60, n%60)
	case n%3600 != 0:
		return fmt.Sprintf("%s%02d%02d", sign, n/3600, n/60%60)
	}
	return fmt.Sprintf("%s%02d", sign, n/3600)
}

// Promises 8.1 and 8.3: each offset that has a text has its own, and is read from it.
func TestOffset(t *testing.T) {
	for off := int64(1 - first); off < first; off++ {
		want := textOf(off)
		text, why := Offset(off)
		if text != want || why != api.OK {
			t.Fatalf("Offset(%d) is %q, %d, not %q", off, text, why, want)
		}
		if got, why := ParseOffset(text); got != off || why != api.OK {
			t.Fatalf("ParseOffset(%q) is %d, %d, not %d", text, got, why, off)
		}
	}
}

// Promise 8.1: texts of offsets that are told by name, and offsets that have none.
func TestOffsetNamed(t *testing.T) {
	for off, want := range map[int64]string{
		0: "+00", 1: "+000001", -1: "-000001", 59: "+000059", 60: "+0001", -60: "-0001", 3599: "+005959", 3600: "+01", -3600: "-01", 3601: "+010001", 5400: "+0130", -12600: "-0330",
		20700: "+0545", 36000: "+10", -36000: "-10", first - 1: "+995959", 1 - first: "-995959", 356400: "+99",
	} {
		if got, why := Offset(off); got != want || why != api.OK {
			t.Errorf("Offset(%d) is %q, %d, not %q", off, got, why, want)
		}
	}
	for _, off := range []int64{first, -first, first + 1, -first - 1, 604800, 1 << 40, -1 << 40, math.MaxInt64, math.MinInt64, math.MinInt64 + 1, 1 << 32, 3600 + 1<<32, -1 << 32} {
		if got, why := Offset(off); got != "" || why != api.ErrRange {
			t.Errorf("Offset(%d) is %q, %d", off, got, why)
		}
	}
}

// Promise 8.1: every sign with up to six digits: those alone are read that are as they would be written.
func TestParseOffsetDigits(t *testing.T) {
	right := map[string]int64{}
	for off := int64(1 - first); off < first; off++ {
		right[textOf(off)] = off
	}
	for digits, n := 0, 1; digits <= 6; digits, n = digits+1, n*10 {
		for i := range n {
			tail := fmt.Sprintf("%0*d", digits, i)
			if digits == 0 {
				tail = ""
			}
			for _, s := range []string{"+" + tail, "-" + tail, tail} {
				want, ok := right[s]
				why := api.ErrSyntax
				if ok {
					why = api.OK
				}
				if got, w := ParseOffset(s); got != want || w != why {
					t.Fatalf("ParseOffset(%q) is %d, %d, not %d, %d", s, got, w, want, why)
				}
			}
		}
	}
}

// Promise 8.1: texts that are no offset's.
func TestParseOffsetWrong(t *testing.T) {
	for _, s := range []string{
		"", " ", "+", "-", "+-", "++", "-00", "-0000", "-000000", "+0000", "+000000", "+0100", "+010000", "+013000", "+0160", "+010060", "+009999", "+1", "+001", "+00001", "+0000001",
		"01", "0130", " +01", "+01 ", "+01\n", "+01:30", "+01.5", "+1:", "*01", "+0a", "+a0", "+01a0", "+010a", "+01010a", "+0101a0", "+ 1", "+-1", "+\x001", "+\u0661", "+/0", "+0/", "+:0", "+0:",
		"+01+30", "Z", "UTC", "+01s", "%z", "\u221201", "+01000001", "+" + strings.Repeat("0", 5000), strings.Repeat("+", 5000), "+995960", "+100", "+1000000",
	} {
		if got, why := ParseOffset(s); got != 0 || why != api.ErrSyntax {
			t.Errorf("ParseOffset(%q) is %d, %d", s, got, why)
		}
	}
}

// nameOf is the short name, found in another way.
func nameOf(format, letter string, off int64, dst bool) (string, api.Errno) {
	if whyFormat(format) != api.OK || whyLetter(letter) != api.OK {
		return "", api.ErrForm
	}
	if strings.Contains(format, "%z") && (off >= first || off <= -first) {
		return "", api.ErrRange
	}
	parts := strings.Split(format, "/")
	part := parts[0]
	if dst {
		part = parts[len(parts)-1]
	}
	if strings.Contains(part, "%z") {
		return strings.ReplaceAll(part, "%z", textOf(off)), api.OK
	}
	return strings.ReplaceAll(part, "%s", letter), api.OK
}

// Promise 8.2: short names, of formats of few bytes, with letters and offsets of all kinds, against another way of finding them.
func TestOfShort(t *testing.T) {
	letters := []string{"", "S", "--", "sz", strings.Repeat("D", most), "-", "%s", "%z", "/", "A/B", strings.Repeat("D", most+1)}
	offs := []int64{0, 3600, -12600, 20701, first - 1, 1 - first, first, -first, math.MinInt64, math.MaxInt64}
	for _, format := range texts() {
		for _, letter := range letters {
			for _, off := range offs {
				for _, dst := range []bool{false, true} {
					want, why := nameOf(format, letter, off, dst)
					if got, w := Of(format, letter, off, dst); got != want || w != why {
						t.Fatalf("Of(%q, %q, %d, %v) is %q, %d, not %q, %d", format, letter, off, dst, got, w, want, why)
					}
				}
			}
		}
	}
}

// Promise 8.2: short names that are told by name, and what has none.
func TestOf(t *testing.T) {
	for _, c := range []struct {
		format, letter string
		off            int64
		dst            bool
		want           string
		why            api.Errno
	}{
		{"UTC", "", 0, false, "UTC", api.OK},
		{"UTC", "S", 3600, true, "UTC", api.OK},
		{"CE%sT", "", 3600, false, "CET", api.OK},
		{"CE%sT", "S", 7200, true, "CEST", api.OK},
		{"%s", "GMT", 0, false, "GMT", api.OK},
		{"%s", "", 0, false, "", api.OK},
		{"E%sT", "--", 0, false, "E--T", api.OK},
		{"%z", "S", 20700, false, "+0545", api.OK},
		{"X%zY", "", -1, true, "X-000001Y", api.OK},
		{"GMT/BST", "X", 0, false, "GMT", api.OK},
		{"GMT/BST", "X", 3600, true, "BST", api.OK},
		{"GMT/BST", "", math.MinInt64, true, "BST", api.OK},
		{"E%sT", "D", math.MaxInt64, true, "EDT", api.OK},
		{"E%zT", "D", first, true, "", api.ErrRange},
		{"%z", "", -first, false, "", api.ErrRange},
		{"%z", "-", -first, false, "", api.ErrForm},
		{"%d", "", first, false, "", api.ErrForm},
		{"", "", 0, false, "", api.ErrForm},
		{"UTC", "-", 0, false, "", api.ErrForm},
		{"UTC", "%s", 0, false, "", api.ErrForm},
		{"E%sT", "%s", 0, false, "", api.ErrForm},
		{"A/B/C", "", 0, true, "", api.ErrForm},
		{"A/", "", 0, true, "", api.ErrForm},
		{"%s%z", "", 0, true, "", api.ErrForm},
		{"UTC", strings.Repeat("A", most+1), 0, false, "", api.ErrForm},
		{"E%s", strings.Repeat("A", most), 0, false, "E" + strings.Repeat("A", most), api.OK},
		{strings.Repeat("A", most-2) + "%s", strings.Repeat("B", most), 0, false, strings.Repeat("A", most-2) + strings.Repeat("B", most), api.OK},
		{strings.Repeat("A", most-1) + "%s", "", 0, false, "", api.ErrForm},
	} {
		if got, why := Of(c.format, c.letter, c.off, c.dst); got != c.want || why != c.why {
			t.Errorf("Of(%q, %q, %d, %v) is %q, %d, not %q, %d", c.format, c.letter, c.off, c.dst, got, why, c.want, c.why)
		}
	}
}

// Promise 8.4: a format without % has no more than two names, whatever it is asked with.
func TestEither(t *testing.T) {
	for _, format := range texts() {
		if strings.Contains(format, "%") || Check(format) != api.OK {
			continue
		}
		names := map[string]int{}
		for _, letter := range []string{"", "S", "DD", "--"} {
			for _, off := range []int64{0, 3600, -1, first, math.MinInt64} {
				for _, dst := range []bool{false, true} {
					name, why := Of(format, letter, off, dst)
					if why != api.OK {
						t.Fatalf("Of(%q, %q, %d, %v) is %q, %d", format, letter, off, dst, name, why)
					}
					names[name]++
				}
			}
		}
		if len(names) > 2 {
			t.Errorf("%q has the names %v", format, names)
		}
	}
}
