package scan

import (
	"slices"
	"strconv"
	"strings"
	"testing"

	"solstice/api"
)

// told is fields as texts: each has its column, a colon and its text.
func told(l []api.Field) []string {
	var out []string
	for _, f := range l {
		out = append(out, strconv.Itoa(f.Col)+":"+f.Text)
	}
	return out
}

// fields holds the fields of a line against what they should be.
func fields(t *testing.T, line string, want ...string) {
	t.Helper()
	got, col, why := Fields(line)
	if !slices.Equal(told(got), want) || col != 0 || why != api.OK {
		t.Errorf("Fields(%q) is %q, %d, %d, not %q", line, told(got), col, why, want)
	}
}

// notFields holds what is not right in a line against what it should be.
func notFields(t *testing.T, line string, col int, why api.Errno) {
	t.Helper()
	got, c, w := Fields(line)
	if got != nil || c != col || w != why {
		t.Errorf("Fields(%q) is %q, %d, %d, not %d, %d", line, told(got), c, w, col, why)
	}
}

// Promise 4.1: fields that are parted.
func TestFields(t *testing.T) {
	fields(t, "")
	fields(t, " ")
	fields(t, " \t\r \r\t")
	fields(t, "a", "1:a")
	fields(t, "ab c", "1:ab", "4:c")
	fields(t, "  ab\tc\rd  e \t\r", "3:ab", "6:c", "8:d", "11:e")
	fields(t, "a\r", "1:a")
	fields(t, "Rule\tEU\t1977\t1980\t-\tApr\tSun>=1\t 1:00u\t1:00\tS", "1:Rule", "6:EU", "9:1977", "14:1980", "19:-", "21:Apr", "25:Sun>=1", "33:1:00u", "39:1:00", "44:S")
	fields(t, "\x80\xff \u00e9 '`~!", "1:\x80\xff", "4:\u00e9", "7:'`~!")
}

// Promise 4.1: a # begins a comment, where it is not within quotes.
func TestComment(t *testing.T) {
	fields(t, "#")
	fields(t, "# a b")
	fields(t, " \t#a")
	fields(t, "a#b c", "1:a")
	fields(t, "a #b", "1:a")
	fields(t, `a"b#c"#d "`, "1:ab#c")
	fields(t, `""#`, "1:")
	fields(t, "a # \x00\x01\n\x1f\x7f \" \"\"\"", "1:a")
	fields(t, "#"+strings.Repeat(" a", 100))
}

// Promise 4.1: quotes.
func TestQuotes(t *testing.T) {
	fields(t, `""`, "1:")
	fields(t, ` "" ""`, "2:", "5:")
	fields(t, `""""`, "1:")
	fields(t, `"a"`, "1:a")
	fields(t, `"a b"`, "1:a b")
	fields(t, "\" \t\r#\"", "1: \t\r#")
	fields(t, `a" "b" "c d`, "1:a b c", "11:d")
	fields(t, `"a""b"`, "1:ab")
	fields(t, `a""`, "1:a")
	fields(t, `""a`, "1:a")
	fields(t, `a "b"c`, "1:a", "3:bc")
	fields(t, "\"\u00e9 \xff\"", "1:\u00e9 \xff")
}

// Promise 4.1: bad bytes, each in each place where a line may be.
func TestBadBytes(t *testing.T) {
	for i := range 256 {
		c := string([]byte{byte(i)})
		if i >= 32 && i != 127 || i == '\t' || i == '\r' {
			if _, col, why := Fields(c + "a" + c + " " + c); i != '"' && (col != 0 || why != api.OK) {
				t.Errorf("the byte %d is bad: %d, %d", i, col, why)
			}
			continue
		}
		notFields(t, c, 1, api.ErrSyntax)
		notFields(t, " "+c, 2, api.ErrSyntax)
		notFields(t, "a"+c, 2, api.ErrSyntax)
		notFields(t, "ab "+c+" c", 4, api.ErrSyntax)
		notFields(t, `"`+c+`"`, 2, api.ErrSyntax)
		notFields(t, `a"b "`+c, 6, api.ErrSyntax)
		notFields(t, `"a`+c, 3, api.ErrSyntax)
		fields(t, "a#"+c, "1:a")
	}
}

// Promise 4.1: quotes that do not end.
func TestOpenQuotes(t *testing.T) {
	notFields(t, `"`, 1, api.ErrShort)
	notFields(t, ` "a b #c`, 2, api.ErrShort)
	notFields(t, `ab"`, 3, api.ErrShort)
	notFields(t, `"a""b`, 4, api.ErrShort)
	notFields(t, `"a" b"c`, 6, api.ErrShort)
	notFields(t, `"""`, 3, api.ErrShort)
}

// Promise 4.1: as many fields as may be, and one more.
func TestManyFields(t *testing.T) {
	most := strings.Repeat("a ", 24)
	if l, col, why := Fields(most); len(l) != 24 || l[23] != (api.Field{Text: "a", Col: 47}) || col != 0 || why != api.OK {
		t.Errorf("24 fields are %q, %d, %d", told(l), col, why)
	}
	if l, col, why := Fields(most + "# a"); len(l) != 24 || col != 0 || why != api.OK {
		t.Errorf("24 fields and a comment are %q, %d, %d", told(l), col, why)
	}
	if l, col, why := Fields(strings.Repeat(`"" `, 24)); len(l) != 24 || l[23] != (api.Field{Col: 70}) || col != 0 || why != api.OK {
		t.Errorf("24 empty fields are %q, %d, %d", told(l), col, why)
	}
	notFields(t, most+"a", 49, api.ErrLong)
	notFields(t, most+"  b c d", 51, api.ErrLong)
	notFields(t, most+`""`, 49, api.ErrLong)
	// The first one from left to right is told.
	notFields(t, most+"\x01", 49, api.ErrSyntax)
	notFields(t, most+"a\x01", 49, api.ErrLong)
	notFields(t, most+`"`, 49, api.ErrLong)
	notFields(t, "\x01"+most+"a", 1, api.ErrSyntax)
	notFields(t, strings.Repeat("a ", 23)+`"`, 47, api.ErrShort)
}

// Promise 4.1: a line as long as may be, and one byte more.
func TestLongLine(t *testing.T) {
	long := strings.Repeat("a", 2048)
	fields(t, long, "1:"+long)
	notFields(t, long+"a", 2049, api.ErrLong)
	notFields(t, long+" ", 2049, api.ErrLong)
	notFields(t, "\x01"+long, 2049, api.ErrLong)
	notFields(t, "#"+long+long, 2049, api.ErrLong)
	notFields(t, strings.Repeat("a ", 1025), 2049, api.ErrLong)
	fields(t, strings.Repeat(" ", 2047)+"a", "2048:a")
	notFields(t, strings.Repeat(" ", 2047)+`"`, 2048, api.ErrShort)
	notFields(t, strings.Repeat(" ", 2047)+"\x7f", 2048, api.ErrSyntax)
}

// model is what Fields tells of a line that is not too long, found in another way: first what is within quotes is marked.
func model(line string) ([]string, int, api.Errno) {
	within, open, stop := marks(line)
	var out []string
	text, begin := "", 0
	for i := 0; i <= stop; i++ {
		parts := i == stop || !within[i] && strings.ContainsRune(" \t\r", rune(line[i]))
		switch {
		case i < stop && (line[i] < 32 && !strings.ContainsRune("\t\r", rune(line[i])) || line[i] == 127):
			return nil, i + 1, api.ErrSyntax
		case parts && begin > 0:
			out = append(out, strconv.Itoa(begin)+":"+text)
			text, begin = "", 0
		case !parts:
			if begin == 0 {
				begin = i + 1
			}
			if begin == i+1 && len(out) == 24 {
				return nil, begin, api.ErrLong
			}
			if line[i] != '"' {
				text += line[i : i+1]
			}
		}
	}
	if open > 0 {
		return nil, open, api.ErrShort
	}
	return out, 0, api.OK
}

// marks tells of each byte whether it is within quotes, the column of the " of quotes that do not end (or 0), and the place where a comment, or the end, is.
func marks(line string) ([]bool, int, int) {
	within := make([]bool, len(line))
	open := 0
	for i := range len(line) {
		within[i] = open > 0
		switch {
		case line[i] == '"' && open > 0:
			open = 0
		case line[i] == '"':
			open = i + 1
		case line[i] == '#' && open == 0:
			return within, 0, i
		}
	}
	return within, open, len(line)
}

// each calls with each text of up to n of the pieces.
func each(n int, pieces []string, call func(s string)) {
	list := []string{""}
	for range n + 1 {
		var longer []string
		for _, s := range list {
			call(s)
			for _, p := range pieces {
				longer = append(longer, s+p)
			}
		}
		list = longer
	}
}

// Promise 4.1: all short lines, held against the model; behind some fields as well, so that there may be too many.
func TestAgainstModel(t *testing.T) {
	for _, ahead := range []string{"", strings.Repeat("b ", 22)} {
		each(6, []string{"a", " ", `"`, "#", "\x01", "\t"}, func(s string) {
			line := ahead + s
			want, wantCol, wantWhy := model(line)
			got, col, why := Fields(line)
			if !slices.Equal(told(got), want) || col != wantCol || why != wantWhy {
				t.Fatalf("Fields(%q) is %q, %d, %d, not %q, %d, %d", line, told(got), col, why, want, wantCol, wantWhy)
			}
		})
	}
}

// Promise 4.2: lines that have fields, and their numbers.
func TestLines(t *testing.T) {
	lines, fault := Lines("a b\n\n # c\r\n\td \"\"\r\ne#\n")
	if fault != (api.Fault{}) || len(lines) != 3 {
		t.Fatalf("Lines is %v, %v", lines, fault)
	}
	right := []struct {
		no     int
		fields []string
	}{{1, []string{"1:a", "3:b"}}, {4, []string{"2:d", "4:"}}, {5, []string{"1:e"}}}
	for i, r := range right {
		if lines[i].No != r.no || !slices.Equal(told(lines[i].Fields), r.fields) {
			t.Errorf("the line %d is %v", i, lines[i])
		}
	}
	for _, s := range []string{"", "\n", " \n\t\n#\n\r", strings.Repeat("\n", 1<<20)} {
		if lines, fault := Lines(s); lines != nil || fault != (api.Fault{}) {
			t.Errorf("Lines of no fields is %v, %v", lines, fault)
		}
	}
	if lines, fault := Lines("\n\na"); fault != (api.Fault{}) || len(lines) != 1 || lines[0].No != 3 {
		t.Errorf("the last line is %v, %v", lines, fault)
	}
}

// Promise 4.2: the first line that is not right.
func TestLinesFault(t *testing.T) {
	wrong := []struct {
		text  string
		fault api.Fault
	}{
		{"\x01", api.Fault{Line: 1, Col: 1, Why: api.ErrSyntax}},
		{"a\nb \"c\nd\"", api.Fault{Line: 2, Col: 3, Why: api.ErrShort}},
		{"\"\n\x01", api.Fault{Line: 1, Col: 1, Why: api.ErrShort}},
		{"a\n\n#\x01\n a\x7f\n\"", api.Fault{Line: 4, Col: 3, Why: api.ErrSyntax}},
		{"a\n" + strings.Repeat("b ", 25), api.Fault{Line: 2, Col: 49, Why: api.ErrLong}},
		{"\n" + strings.Repeat("b", 2049) + "\n\x01", api.Fault{Line: 2, Col: 2049, Why: api.ErrLong}},
		{strings.Repeat("\n", 1<<20-1) + "\x01", api.Fault{Line: 1 << 20, Col: 1, Why: api.ErrSyntax}},
		{strings.Repeat("\n", 1<<20+1), api.Fault{Why: api.ErrLong}},
		{"\x01" + strings.Repeat("\n", 1<<20), api.Fault{Why: api.ErrLong}},
	}
	for _, w := range wrong {
		if lines, fault := Lines(w.text); lines != nil || fault != w.fault {
			t.Errorf("Lines of %d bytes is %v, %v, not %v", len(w.text), lines, fault, w.fault)
		}
	}
	most := strings.Repeat(strings.Repeat("a", 1023)+"\n", 1<<10)
	if lines, fault := Lines(most); len(lines) != 1<<10 || fault != (api.Fault{}) {
		t.Errorf("Lines of as much as may be is %d lines, %v", len(lines), fault)
	}
}

// Promise 4.3: Quote.
func TestQuote(t *testing.T) {
	right := []struct{ s, want string }{
		{"", `""`}, {"a", "a"}, {"a b", `"a b"`}, {" ", `" "`}, {"\t", "\"\t\""}, {"a\r", "\"a\r\""}, {"#", `"#"`}, {"a#b", `"a#b"`},
		{"Sun>=1", "Sun>=1"}, {"-", "-"}, {"'", "'"}, {"\u00e9\x80\xff", "\u00e9\x80\xff"}, {"~!", "~!"},
	}
	for _, r := range right {
		if got, why := Quote(r.s); got != r.want || why != api.OK {
			t.Errorf("Quote(%q) is %q, %d", r.s, got, why)
		}
	}
	for _, s := range []string{`"`, `a"`, `"a"`, `a "`, "\n", "a\x00", "\x1f", "\x7f", " \x7f", "# \x01", "a b\n"} {
		if got, why := Quote(s); got != "" || why != api.ErrForm {
			t.Errorf("Quote(%q) is %q, %d", s, got, why)
		}
	}
	// A Quote may be longer than a line.
	if got, why := Quote(strings.Repeat(" ", 3000)); len(got) != 3002 || why != api.OK {
		t.Errorf("Quote of 3000 blanks has %d bytes, %d", len(got), why)
	}
}

// Promise 4.3: each byte, in a Quote and in a line, is the same.
func TestQuoteBytes(t *testing.T) {
	for i := range 256 {
		s := "a" + string([]byte{byte(i)})
		q, why := Quote(s)
		if i == '"' || i == 127 || i < 32 && i != '\t' && i != '\r' {
			if q != "" || why != api.ErrForm {
				t.Errorf("Quote(%q) is %q, %d", s, q, why)
			}
			continue
		}
		want := s
		if strings.ContainsRune(" \t\r#", rune(i)) {
			want = `"` + s + `"`
		}
		if q != want || why != api.OK {
			t.Errorf("Quote(%q) is %q, %d", s, q, why)
		}
	}
}

// Promise 4.3: Join.
func TestJoin(t *testing.T) {
	right := []struct {
		l    []string
		want string
	}{
		{nil, ""}, {[]string{"a"}, "a"}, {[]string{""}, `""`}, {[]string{"a", "b"}, "a b"}, {[]string{"a b", "", "#", "c"}, `"a b" "" "#" c`},
	}
	for _, r := range right {
		if got, why := Join(r.l...); got != r.want || why != api.OK {
			t.Errorf("Join(%q) is %q, %d", r.l, got, why)
		}
	}
	if got, why := Join(slices.Repeat([]string{"a"}, 24)...); got != strings.Repeat("a ", 23)+"a" || why != api.OK {
		t.Errorf("Join of 24 is %q, %d", got, why)
	}
	half := strings.Repeat("a", 1023)
	if got, why := Join(half, half+"b"); len(got) != 2048 || why != api.OK {
		t.Errorf("Join of 2048 bytes has %d, %d", len(got), why)
	}
	list := []string{"a b", "c"}
	if Join(list...); !slices.Equal(list, []string{"a b", "c"}) {
		t.Errorf("Join changed what was handed in: %q", list)
	}
}

// Promise 4.3: Join of what is no line.
func TestJoinWrong(t *testing.T) {
	long := strings.Repeat("a", 2049)
	wrong := []struct {
		l   []string
		why api.Errno
	}{
		{slices.Repeat([]string{"a"}, 25), api.ErrLong}, {slices.Repeat([]string{`"`}, 25), api.ErrLong},
		{[]string{`"`}, api.ErrForm}, {[]string{"a", "b\n"}, api.ErrForm}, {[]string{"a", "", "\x7f"}, api.ErrForm},
		{[]string{long, `"`}, api.ErrForm}, {[]string{`"`, long}, api.ErrForm},
		{[]string{long}, api.ErrLong}, {[]string{long[:1024], long[:1024]}, api.ErrLong}, {[]string{strings.Repeat(" ", 2047)}, api.ErrLong},
	}
	for _, w := range wrong {
		if got, why := Join(w.l...); got != "" || why != w.why {
			t.Errorf("Join(%q) is %q, %d, not %d", w.l, got, why, w.why)
		}
	}
}

// Promise 4.4: the fields of what was joined are those that were joined.
func TestThereAndBack(t *testing.T) {
	var all []string
	each(3, []string{"a", " ", "\t", "\r", "#", "\xff"}, func(s string) { all = append(all, s) })
	check := func(l ...string) {
		line, why := Join(l...)
		if why != api.OK {
			t.Fatalf("Join(%q) is wrong: %d", l, why)
		}
		got, col, why := Fields(line)
		if len(got) != len(l) || col != 0 || why != api.OK {
			t.Fatalf("Fields(%q) is %q, %d, %d, not %q", line, told(got), col, why, l)
		}
		for i, f := range got {
			if f.Text != l[i] {
				t.Fatalf("Fields(%q) is %q, not %q", line, told(got), l)
			}
		}
	}
	for i, a := range all {
		check(a)
		for _, b := range all {
			check(a, b)
		}
		check(all[i:min(i+24, len(all))]...)
	}
	check(strings.Repeat(" ", 2046))
}
