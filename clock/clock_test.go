package clock

import (
	"fmt"
	"math"
	"strings"
	"testing"

	"solstice/api"
	"solstice/civil"
)

const (
	firstDay = -719162 // 0001-01-01
	lastDay  = 2932896 // 9999-12-31
)

// Promise 2.1: At.
func TestAt(t *testing.T) {
	right := []struct{ day, sec, want int64 }{
		{0, 0, 0}, {1, -30, 86370}, {-1, 0, -86400}, {0, 604800, 604800}, {0, -604800, -604800},
		{firstDay, -604800, firstDay*86400 - 604800}, {lastDay, 604800, lastDay*86400 + 604800},
	}
	for _, r := range right {
		if got, why := At(r.day, r.sec); got != r.want || why != api.OK {
			t.Errorf("At(%d, %d) is %d, %d", r.day, r.sec, got, why)
		}
	}
	wrong := [][2]int64{
		{firstDay - 1, 0}, {lastDay + 1, 0}, {math.MinInt64, 0}, {math.MaxInt64, 0},
		{0, 604801}, {0, -604801}, {0, math.MinInt64}, {0, math.MaxInt64}, {lastDay + 1, -86400},
	}
	for _, w := range wrong {
		if got, why := At(w[0], w[1]); got != 0 || why != api.ErrRange {
			t.Errorf("At(%d, %d) is %d, %d", w[0], w[1], got, why)
		}
	}
}

// Promise 2.1: Split, of any number.
func TestSplit(t *testing.T) {
	right := []struct{ t, day, sec int64 }{
		{0, 0, 0}, {1, 0, 1}, {86399, 0, 86399}, {86400, 1, 0}, {-1, -1, 86399},
		{-86400, -1, 0}, {-86401, -2, 86399}, {-86399, -1, 1},
		{math.MaxInt64, 106751991167300, 55807}, {math.MinInt64, -106751991167301, 30592},
	}
	for _, r := range right {
		if day, sec := Split(r.t); day != r.day || sec != r.sec {
			t.Errorf("Split(%d) is %d, %d", r.t, day, sec)
		}
	}
}

// Promise 2.1: Year.
func TestYear(t *testing.T) {
	right := []struct {
		t    int64
		year int
	}{
		{0, 1970}, {-1, 1969}, {31535999, 1970}, {31536000, 1971}, {951868800, 2000},
		{firstDay * 86400, 1}, {lastDay*86400 + 86399, 9999},
	}
	for _, r := range right {
		if y, why := Year(r.t); y != r.year || why != api.OK {
			t.Errorf("Year(%d) is %d, %d", r.t, y, why)
		}
	}
	for _, w := range []int64{firstDay*86400 - 1, lastDay*86400 + 86400, math.MinInt64, math.MaxInt64} {
		if y, why := Year(w); y != 0 || why != api.ErrRange {
			t.Errorf("Year(%d) is %d, %d", w, y, why)
		}
	}
}

// Promise 2.1: the year begins and ends with the seconds of civil's days.
func TestYearOfEach(t *testing.T) {
	for y := 1; y <= 9999; y++ {
		a, _ := civil.First(y)
		b, _ := civil.First(y + 1)
		if got, why := Year(a * 86400); got != y || why != api.OK {
			t.Errorf("the first second of %d is of %d, %d", y, got, why)
		}
		if got, why := Year(b*86400 - 1); got != y || why != api.OK {
			t.Errorf("the last second of %d is of %d, %d", y, got, why)
		}
	}
}

// Promise 2.1: Add.
func TestAdd(t *testing.T) {
	const most = 1 << 40
	right := [][2]int64{{0, 0}, {1, 2}, {-5, 3}, {most, 0}, {-most, 0}, {0, most}, {0, -most}, {most, -most}, {most - 1, 1}, {1 - most, -1}}
	for _, r := range right {
		if got, why := Add(r[0], r[1]); got != r[0]+r[1] || why != api.OK {
			t.Errorf("Add(%d, %d) is %d, %d", r[0], r[1], got, why)
		}
	}
	wrong := [][2]int64{
		{most, 1}, {1, most}, {-most, -1}, {-1, -most}, {most + 1, -1}, {-1, most + 1}, {-most - 1, 1}, {1, -most - 1},
		{most, most}, {-most, -most}, {math.MaxInt64, math.MinInt64}, {math.MaxInt64, math.MaxInt64}, {math.MinInt64, math.MinInt64}, {math.MinInt64, 0},
	}
	for _, w := range wrong {
		if got, why := Add(w[0], w[1]); got != 0 || why != api.ErrRange {
			t.Errorf("Add(%d, %d) is %d, %d", w[0], w[1], got, why)
		}
	}
}

// Promise 2.2: Text.
func TestText(t *testing.T) {
	right := []struct {
		sec  int64
		text string
	}{
		{0, "0:00"}, {1, "0:00:01"}, {-1, "-0:00:01"}, {59, "0:00:59"}, {60, "0:01"}, {-60, "-0:01"},
		{3599, "0:59:59"}, {3600, "1:00"}, {7200, "2:00"}, {-9005, "-2:30:05"}, {36000, "10:00"},
		{86400, "24:00"}, {360000, "100:00"}, {604800, "168:00"}, {-604800, "-168:00"}, {604799, "167:59:59"},
		{604801, ""}, {-604801, ""}, {1 << 40, ""}, {math.MaxInt64, ""}, {math.MinInt64, ""},
	}
	for _, r := range right {
		if got := Text(r.sec); got != r.text {
			t.Errorf("Text(%d) is %q", r.sec, got)
		}
	}
}

// Promise 2.2: Parse of times.
func TestParse(t *testing.T) {
	right := []struct {
		text string
		sec  int64
	}{
		{"0", 0}, {"-0", 0}, {"00", 0}, {"000", 0}, {"-000:00:00", 0}, {"2", 7200}, {"24", 86400}, {"024", 86400},
		{"2:00", 7200}, {"02:00", 7200}, {"002:00:00", 7200}, {"-2:30:05", -9005}, {"1:59:59", 7199}, {"0:00:59", 59},
		{"168", 604800}, {"168:00:00", 604800}, {"-168:00", -604800}, {"167:59:59", 604799},
	}
	for _, r := range right {
		if got, why := Parse(r.text); got != r.sec || why != api.OK {
			t.Errorf("Parse(%q) is %d, %d", r.text, got, why)
		}
	}
}

// Promise 2.2: Parse of what is no such text.
func TestParseSyntax(t *testing.T) {
	wrong := []string{
		"", "-", ":", "-:", "--1", "+1", "1-", "-+1", "1:", "1:0", "1:000", "1:60", "1:99", "1:00:", "1:00:0", "1:00:000", "1:00:60",
		":00", ":00:00", "1::00", "1:00:00:", "1:00:00:00", "1:00:00:00:00", "0001", "1000", "a", "1a", "a1", "1:a0", "1:0a", "1:00:0x",
		" 1", "1 ", "1: 0", "1:-1", "1:+1", "1:00:-1", "1.5", "1/00", "\x001", "१", "1:0०", "999:60", "-999:59:60", "9999",
		strings.Repeat("1", 1000), strings.Repeat(":", 1000), "1" + strings.Repeat(":00", 100),
	}
	for _, s := range wrong {
		if got, why := Parse(s); got != 0 || why != api.ErrSyntax {
			t.Errorf("Parse(%q) is %d, %d", s, got, why)
		}
	}
}

// Promise 2.2: Parse of what is such a text, but of no time.
func TestParseRange(t *testing.T) {
	for _, s := range []string{"168:00:01", "-168:00:01", "168:01", "169", "-169", "999", "-999:59:59", "999:59:59"} {
		if got, why := Parse(s); got != 0 || why != api.ErrRange {
			t.Errorf("Parse(%q) is %d, %d", s, got, why)
		}
	}
}

// Promise 2.3: each time is read from its text, that is as the library writes it.
func TestTextThereAndBack(t *testing.T) {
	for sec := int64(-604800); sec <= 604800; sec++ {
		text := Text(sec)
		if got, why := Parse(text); got != sec || why != api.OK {
			t.Fatalf("Parse(%q) is %d, %d, not %d", text, got, why, sec)
		}
		if sec >= 0 && sec%977 == 0 {
			want := fmt.Sprintf("%d:%02d", sec/3600, sec/60%60)
			if sec%60 != 0 {
				want += fmt.Sprintf(":%02d", sec%60)
			}
			if text != want || sec > 0 && Text(-sec) != "-"+want {
				t.Fatalf("Text(%d) is %q, not %q", sec, text, want)
			}
		}
	}
}

// Promise 2.3: an instant is had of its day, and what of that is over.
func TestInstantThereAndBack(t *testing.T) {
	for day := int64(firstDay); day <= lastDay; day += 61 {
		for _, over := range []int64{0, 1, 43200, 86399} {
			at, why := At(day, over)
			if why != api.OK {
				t.Fatalf("At(%d, %d) is wrong: %d", day, over, why)
			}
			if d, s := Split(at); d != day || s != over {
				t.Fatalf("Split(%d) is %d, %d, not %d, %d", at, d, s, day, over)
			}
		}
	}
	for _, x := range []int64{0, -1, 86399, 86400, -86400, -86401, 1 << 40, -1 << 40, math.MaxInt64, math.MinInt64} {
		// Where day * 86400 runs over, it and what is over together run back.
		if d, s := Split(x); d*86400+s != x || s < 0 || s > 86399 {
			t.Errorf("Split(%d) is %d, %d", x, d, s)
		}
	}
}
