// Package clock has instants, and times as they are written: see ../../shared/DOC.md and doc/02-clock.md.
package clock

import (
	"strconv"
	"strings"

	"solstice/api"
	"solstice/civil"
)

// daySeconds is how many seconds a day has.
const daySeconds = 86400

// units has how many seconds an hour, a minute and a second have.
var units = [3]int64{3600, 60, 1}

// At is the instant sec seconds behind the beginning of the day.
func At(day, sec int64) (int64, api.Errno) {
	if _, why := civil.Of(day); why != api.OK {
		return 0, why
	}
	if !isTime(sec) {
		return 0, api.ErrRange
	}
	return day*daySeconds + sec, api.OK
}

// Split is the day in which t lies, and how many seconds of it are over.
func Split(t int64) (int64, int64) {
	day, sec := t/daySeconds, t%daySeconds
	if sec < 0 {
		return day - 1, sec + daySeconds
	}
	return day, sec
}

// Year is the year of the day in which t lies.
func Year(t int64) (int, api.Errno) {
	day, _ := Split(t)
	d, why := civil.Of(day)
	return d.Year, why
}

// Add is a and b together.
func Add(a, b int64) (int64, api.Errno) {
	if !isNear(a) || !isNear(b) || !isNear(a+b) {
		return 0, api.ErrRange
	}
	return a + b, api.OK
}

// Text is the text of a time.
func Text(sec int64) string {
	if !isTime(sec) {
		return ""
	}
	sign := ""
	if sec < 0 {
		sign, sec = "-", -sec
	}
	parts := cut(sec)
	text := sign + strconv.FormatInt(parts[0], 10) + ":" + twoDigits(parts[1])
	if parts[2] != 0 {
		text += ":" + twoDigits(parts[2])
	}
	return text
}

// Parse is the time that the text s tells.
func Parse(s string) (int64, api.Errno) {
	rest, below := strings.CutPrefix(s, "-")
	parts, ok := read(rest)
	if !ok {
		return 0, api.ErrSyntax
	}
	sec := together(parts)
	if below {
		sec = -sec
	}
	if !isTime(sec) {
		return 0, api.ErrRange
	}
	return sec, api.OK
}

// isTime tells whether sec is a time.
func isTime(sec int64) bool {
	return sec >= -api.MaxClock && sec <= api.MaxClock
}

// isNear tells whether t is no further away than MaxT.
func isNear(t int64) bool {
	return t >= -api.MaxT && t <= api.MaxT
}

// cut is the hours, minutes and seconds of sec, that is not below 0.
func cut(sec int64) [3]int64 {
	var parts [3]int64
	for i := range parts {
		parts[i] = sec / units[i]
		sec %= units[i]
	}
	return parts
}

// together is how many seconds hours, minutes and seconds are.
func together(parts [3]int64) int64 {
	sec := int64(0)
	for i := range parts {
		sec += parts[i] * units[i]
	}
	return sec
}

// read is the hours, minutes and seconds that a text without a sign tells.
func read(s string) ([3]int64, bool) {
	var parts [3]int64
	// Where there are too many, the last piece has a : left, and is no digits.
	for i, piece := range strings.SplitN(s, ":", len(parts)) {
		n, ok := readPart(i, piece)
		if !ok {
			return parts, false
		}
		parts[i] = n
	}
	return parts, true
}

// readPart is the hours (i is 0), or the minutes or seconds, that s tells.
func readPart(i int, s string) (int64, bool) {
	if i == 0 {
		return digits(s, 1, 3)
	}
	n, ok := digits(s, 2, 2)
	return n, ok && n < 60
}

// digits is the number of s, that has from least to most digits, and nothing else.
func digits(s string, least, most int) (int64, bool) {
	if len(s) < least || len(s) > most {
		return 0, false
	}
	n := int64(0)
	for i := 0; i < len(s); i++ {
		if s[i] < '0' || s[i] > '9' {
			return 0, false
		}
		n = 10*n + int64(s[i]-'0')
	}
	return n, true
}

// twoDigits is n, that is less than 100, in two digits.
func twoDigits(n int64) string {
	if n < 10 {
		return "0" + strconv.FormatInt(n, 10)
	}
	return strconv.FormatInt(n, 10)
}
