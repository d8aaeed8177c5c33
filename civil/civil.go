// Package civil has the calendar: see ../../shared/DOC.md and doc/01-civil.md.
package civil

import "solstice/api"

// After four hundred years the calendar is the same again, and 1970 begins in the fifth four hundred, so many days on.
const (
	cycleYears = 400
	cycleDays  = 146097
	epoch      = 719468 // days from the first of March of the year 0 to the day 0
)

// Leap tells whether y is a leap year.
func Leap(y int) bool {
	return y%4 == 0 && (y%100 != 0 || y%400 == 0)
}

// Length is how many days the month m of the year y has.
func Length(y, m int) (int, api.Errno) {
	if y < api.MinYear || y > api.MaxYear || m < 1 || m > 12 {
		return 0, api.ErrRange
	}
	switch m {
	case 2:
		if Leap(y) {
			return 29, api.OK
		}
		return 28, api.OK
	case 4, 6, 9, 11:
		return 30, api.OK
	}
	return 31, api.OK
}

// Check tells whether d is a date.
func Check(d api.Date) api.Errno {
	n, why := Length(d.Year, d.Month)
	if why != api.OK {
		return why
	}
	if d.Day < 1 || d.Day > n {
		return api.ErrRange
	}
	return api.OK
}

// Days is the number of the day d.
func Days(d api.Date) (int64, api.Errno) {
	if why := Check(d); why != api.OK {
		return 0, why
	}
	return number(d), api.OK
}

// Of is the date of the day n.
func Of(n int64) (api.Date, api.Errno) {
	if n < newYear(api.MinYear) || n >= newYear(api.MaxYear+1) {
		return api.Date{}, api.ErrRange
	}
	return date(n), api.OK
}

// Weekday is which day of the week the day n is.
func Weekday(n int64) int {
	// The remainder is above -7, and 11 is 4 (the day 0 is a Thursday) and a week.
	return int((n%7 + 11) % 7)
}

// First is the number of the first of January of the year y.
func First(y int) (int64, api.Errno) {
	if y < api.MinYear || y > api.MaxYear+1 {
		return 0, api.ErrRange
	}
	return newYear(y), api.OK
}

// newYear is the number of the first of January of a year above 0.
func newYear(y int) int64 {
	return number(api.Date{Year: y, Month: 1, Day: 1})
}

// number is the number of a date of a year above 0.
func number(d api.Date) int64 {
	y, m := fromMarch(d)
	cycle := y / cycleYears
	return cycle*cycleDays + ahead(y%cycleYears) + aheadMonth(m) + int64(d.Day) - 1 - epoch
}

// fromMarch is the year that begins in March, and its month (from 0 on), in which d lies: so the leap day is a year's last.
func fromMarch(d api.Date) (int64, int64) {
	if d.Month < 3 {
		return int64(d.Year) - 1, int64(d.Month) + 9
	}
	return int64(d.Year), int64(d.Month) - 3
}

// ahead is how many days the first y years of four hundred have.
func ahead(y int64) int64 {
	return 365*y + y/4 - y/100
}

// aheadMonth is how many days the first m months of a year that begins in March have: five months have 153, again and again.
func aheadMonth(m int64) int64 {
	return (153*m + 2) / 5
}

// date is the date of a day that is not ahead of the first of March of the year 0.
func date(n int64) api.Date {
	n += epoch
	cycle, rest := n/cycleDays, n%cycleDays
	// What leap days came ahead is taken away first: what is left has 365 days a year.
	y := (rest - rest/1460 + rest/36524 - rest/(cycleDays-1)) / 365
	rest -= ahead(y)
	m := (5*rest + 2) / 153
	d := api.Date{Year: int(cycle*cycleYears + y), Month: int(m) + 3, Day: int(rest-aheadMonth(m)) + 1}
	if d.Month > 12 {
		d.Year++
		d.Month -= 12
	}
	return d
}
