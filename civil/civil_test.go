package civil

import (
	"math"
	"testing"
	"time"

	"solstice/api"
)

const (
	firstDay = -719162 // 0001-01-01
	lastDay  = 2932896 // 9999-12-31
)

// wrongDates are no dates: each part below, above and far from what may be.
var wrongDates = []api.Date{
	{},
	{Year: 0, Month: 12, Day: 31},
	{Year: 10000, Month: 1, Day: 1},
	{Year: -1, Month: 1, Day: 1},
	{Year: 2000, Month: 0, Day: 1},
	{Year: 2000, Month: 13, Day: 1},
	{Year: 2000, Month: -1, Day: 1},
	{Year: 2000, Month: 1, Day: 0},
	{Year: 2000, Month: 1, Day: 32},
	{Year: 2000, Month: 1, Day: -1},
	{Year: 2000, Month: 4, Day: 31},
	{Year: 2000, Month: 2, Day: 30},
	{Year: 1900, Month: 2, Day: 29},
	{Year: 2023, Month: 2, Day: 29},
	{Year: math.MaxInt, Month: math.MaxInt, Day: math.MaxInt},
	{Year: math.MinInt, Month: math.MinInt, Day: math.MinInt},
	{Year: 2000, Month: 1, Day: math.MaxInt},
	{Year: 2000, Month: math.MinInt, Day: 1},
}

// rightDates are dates, with their numbers.
var rightDates = []struct {
	d api.Date
	n int64
}{
	{api.Date{Year: 1, Month: 1, Day: 1}, firstDay},
	{api.Date{Year: 1, Month: 2, Day: 28}, firstDay + 58},
	{api.Date{Year: 1, Month: 3, Day: 1}, firstDay + 59},
	{api.Date{Year: 1969, Month: 12, Day: 31}, -1},
	{api.Date{Year: 1970, Month: 1, Day: 1}, 0},
	{api.Date{Year: 1970, Month: 1, Day: 2}, 1},
	{api.Date{Year: 2000, Month: 2, Day: 29}, 11016},
	{api.Date{Year: 2000, Month: 3, Day: 1}, 11017},
	{api.Date{Year: 2024, Month: 2, Day: 29}, 19782},
	{api.Date{Year: 9999, Month: 12, Day: 31}, lastDay},
}

// Promise 1.1: Leap, of any number.
func TestLeap(t *testing.T) {
	for _, y := range []int{4, 1600, 2000, 2024, 0, -4, -400, 9996, 10000, math.MinInt} {
		if !Leap(y) {
			t.Errorf("%d is a leap year", y)
		}
	}
	for _, y := range []int{1, 2, 3, 100, 1700, 1900, 2023, 2100, -1, -2, -3, -100, -300, 9999, math.MaxInt} {
		if Leap(y) {
			t.Errorf("%d is no leap year", y)
		}
	}
}

// Promise 1.1: Length of each month.
func TestLength(t *testing.T) {
	want := [12]int{31, 28, 31, 30, 31, 30, 31, 31, 30, 31, 30, 31}
	for _, y := range []int{1, 4, 100, 400, 1900, 1999, 2000, 2024, 9996, 9999} {
		for m := 1; m <= 12; m++ {
			w := want[m-1]
			if m == 2 && Leap(y) {
				w = 29
			}
			if n, why := Length(y, m); n != w || why != api.OK {
				t.Errorf("Length(%d, %d) is %d, %d", y, m, n, why)
			}
		}
	}
}

// Promise 1.1: Length of no month.
func TestLengthWrong(t *testing.T) {
	wrong := [][2]int{
		{0, 1}, {10000, 1}, {-1, 2}, {math.MaxInt, 1}, {math.MinInt, 1},
		{2000, 0}, {2000, 13}, {2000, -1}, {2000, math.MaxInt}, {2000, math.MinInt}, {0, 0},
	}
	for _, w := range wrong {
		if n, why := Length(w[0], w[1]); n != 0 || why != api.ErrRange {
			t.Errorf("Length(%d, %d) is %d, %d", w[0], w[1], n, why)
		}
	}
}

// Promise 1.1: Check.
func TestCheck(t *testing.T) {
	for _, r := range rightDates {
		if why := Check(r.d); why != api.OK {
			t.Errorf("Check(%v) is %d", r.d, why)
		}
	}
	for _, d := range wrongDates {
		if why := Check(d); why != api.ErrRange {
			t.Errorf("Check(%v) is %d", d, why)
		}
	}
}

// Promise 1.2: Days, and Of, of dates.
func TestDaysAndOf(t *testing.T) {
	for _, r := range rightDates {
		if n, why := Days(r.d); n != r.n || why != api.OK {
			t.Errorf("Days(%v) is %d, %d", r.d, n, why)
		}
		if d, why := Of(r.n); d != r.d || why != api.OK {
			t.Errorf("Of(%d) is %v, %d", r.n, d, why)
		}
	}
}

// Promise 1.2: Days of what is no date, Of of what is of no year.
func TestDaysAndOfWrong(t *testing.T) {
	for _, d := range wrongDates {
		if n, why := Days(d); n != 0 || why != api.ErrRange {
			t.Errorf("Days(%v) is %d, %d", d, n, why)
		}
	}
	for _, n := range []int64{firstDay - 1, lastDay + 1, math.MinInt64, math.MaxInt64} {
		if d, why := Of(n); d != (api.Date{}) || why != api.ErrRange {
			t.Errorf("Of(%d) is %v, %d", n, d, why)
		}
	}
}

// Promise 1.2: Weekday, of any number.
func TestWeekday(t *testing.T) {
	for i, n := range []int64{-4, -3, -2, -1, 0, 1, 2, 3} {
		if got := Weekday(n); got != i%7 {
			t.Errorf("Weekday(%d) is %d", n, got)
		}
	}
	// 2^63 - 1 is a multiple of 7, and so is -2^63 + 1.
	for _, n := range []int64{math.MaxInt64, math.MinInt64 + 1} {
		if got := Weekday(n); got != 4 {
			t.Errorf("Weekday(%d) is %d", n, got)
		}
	}
	if got := Weekday(math.MinInt64); got != 3 {
		t.Errorf("Weekday(%d) is %d", int64(math.MinInt64), got)
	}
}

// Promise 1.2: First, of each year, of the one behind the last, and of none.
func TestFirst(t *testing.T) {
	for y := 1; y <= 10000; y++ {
		want := time.Date(y, 1, 1, 0, 0, 0, 0, time.UTC).Unix() / 86400
		if n, why := First(y); n != want || why != api.OK {
			t.Errorf("First(%d) is %d, %d", y, n, why)
		}
	}
	for _, y := range []int{0, -1, 10001, math.MinInt, math.MaxInt} {
		if n, why := First(y); n != 0 || why != api.ErrRange {
			t.Errorf("First(%d) is %d, %d", y, n, why)
		}
	}
}

// Promises 1.2 and 1.3: each day has a date, the library's, and the date that day; the next day is the next date.
func TestThereAndBack(t *testing.T) {
	ahead := api.Date{Year: 0, Month: 12, Day: 31}
	for n := int64(firstDay); n <= lastDay; n++ {
		d, why := Of(n)
		if why != api.OK || d != next(ahead) {
			t.Fatalf("Of(%d) is %v, %d; the day ahead is %v", n, d, why, ahead)
		}
		if back, why := Days(d); back != n || why != api.OK {
			t.Fatalf("Days(%v) is %d, %d, not %d", d, back, why, n)
		}
		u := time.Unix(n*86400, 0).UTC()
		if u.Year() != d.Year || int(u.Month()) != d.Month || u.Day() != d.Day || int(u.Weekday()) != Weekday(n) {
			t.Fatalf("Of(%d) is %v, Weekday %d", n, d, Weekday(n))
		}
		ahead = d
	}
}

// next is the date behind d, by the lengths of months.
func next(d api.Date) api.Date {
	if n, why := Length(d.Year, d.Month); why == api.OK && d.Day < n {
		return api.Date{Year: d.Year, Month: d.Month, Day: d.Day + 1}
	}
	if d.Month < 12 {
		return api.Date{Year: d.Year, Month: d.Month + 1, Day: 1}
	}
	return api.Date{Year: d.Year + 1, Month: 1, Day: 1}
}

// Promise 1.4: a year has as many days as its months, and a leap day, if it is one.
func TestYears(t *testing.T) {
	for y := 1; y <= 9999; y++ {
		days := int64(0)
		for m := 1; m <= 12; m++ {
			n, _ := Length(y, m)
			days += int64(n)
		}
		a, _ := First(y)
		b, _ := First(y + 1)
		if b-a != days || (days == 366) != Leap(y) || days != 365 && days != 366 {
			t.Errorf("the year %d has %d days, its months %d", y, b-a, days)
		}
	}
}
