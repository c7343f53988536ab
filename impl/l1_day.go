// Package impl: days, zones, and what comes again.
package impl

import (
	"strconv"
	"strings"
)

// DayMax is the last day, that of December 31 of the year 9999, day 0 being January 1 of the year 1.
const DayMax = 3652058

const (
	yearMax     = 9999
	monthMax    = 12
	monthAddMax = 120000
	weekSize    = 7
	thursday    = 3
)

// The calendar repeats by these: 400 years, 100 of them, 4, and one.
const (
	daysOf400 = 146097
	daysOf100 = 36524
	daysOf4   = 1461
	daysOf1   = 365
)

var monthSizes = [monthMax]int{31, 28, 31, 30, 31, 30, 31, 31, 30, 31, 30, 31}

// Date is a year, a month and a day.
type Date struct {
	Year  int
	Month int
	Day   int
}

// dayNumber counts days from day 0 on. Its methods hold of any that is not below 0, days behind DayMax too.
type dayNumber int

// dateParts is a date as an array: its year, month and day.
type dateParts [3]int

// YearLeap says whether a year has a day more.
func YearLeap(year int) bool {
	return isYear(year) && leapRule(year)
}

// MonthDays is how many days a month has.
func MonthDays(year int, month int) int {
	if !isYear(year) || month < 1 || month > monthMax {
		return 0
	}
	return monthSize(year, month)
}

// DateOk says whether a date is one.
func DateOk(d Date) bool {
	return d.Day >= 1 && d.Day <= MonthDays(d.Year, d.Month)
}

// DayOf is the number of the day of a date.
func DayOf(d Date) int {
	if !DateOk(d) {
		return -1
	}
	return int(partsOf(d).number())
}

// DateOf is the date of a day.
func DateOf(day int) Date {
	if !isDay(day) {
		return Date{}
	}
	return dayNumber(day).parts().date()
}

// WeekDay is the day of the week: 0 for Monday, 6 for Sunday.
func WeekDay(day int) int {
	if !isDay(day) {
		return -1
	}
	return dayNumber(day).weekDay()
}

// WeekOf is the year and the number of a day's week, as the world counts them.
func WeekOf(day int) (int, int) {
	if !isDay(day) {
		return 0, 0
	}
	return dayNumber(day).week()
}

// MonthAdd is a date so many months later; on the last day of the month, if that has fewer.
func MonthAdd(d Date, n int) Date {
	if !DateOk(d) || n < -monthAddMax || n > monthAddMax {
		return Date{}
	}
	return partsOf(d).plusMonths(n)
}

// DateText is a date as a text.
func DateText(d Date) string {
	if !DateOk(d) {
		return ""
	}
	p := partsOf(d)
	return figures(p[0], 4) + "-" + figures(p[1], 2) + "-" + figures(p[2], 2)
}

// DateGet reads a date.
func DateGet(text string) (Date, bool) {
	if len(text) != len("YYYY-MM-DD") || text[4] != '-' || text[7] != '-' {
		return Date{}, false
	}
	p := dateParts{figuresGet(text[:4]), figuresGet(text[5:7]), figuresGet(text[8:])}
	if d := p.date(); DateOk(d) {
		return d, true
	}
	return Date{}, false
}

func isYear(year int) bool {
	return year >= 1 && year <= yearMax
}

func isDay(day int) bool {
	return day >= 0 && day <= DayMax
}

func leapRule(year int) bool {
	return year%4 == 0 && year%100 != 0 || year%400 == 0
}

func monthSize(year int, month int) int {
	if month == 2 && leapRule(year) {
		return monthSizes[1] + 1
	}
	return monthSizes[month-1]
}

// yearStart is the number of January 1 of a year.
func yearStart(year int) dayNumber {
	past := year - 1
	return dayNumber(past*daysOf1 + past/4 - past/100 + past/400)
}

// year takes whole cycles away, the greatest first. The last day of 400 years, and of 4, is left over behind four cycles, and belongs to the fourth.
func (n dayNumber) year() int {
	rest := int(n)
	of400 := rest / daysOf400
	rest %= daysOf400
	of100 := min(rest/daysOf100, 3)
	rest -= of100 * daysOf100
	of4 := rest / daysOf4
	rest %= daysOf4
	of1 := min(rest/daysOf1, 3)
	return of400*400 + of100*100 + of4*4 + of1 + 1
}

func (n dayNumber) parts() dateParts {
	year := n.year()
	rest := int(n - yearStart(year))
	month := 1
	for rest >= monthSize(year, month) {
		rest -= monthSize(year, month)
		month++
	}
	return dateParts{year, month, rest + 1}
}

// weekDay needs no offset, as day 0 is a Monday.
func (n dayNumber) weekDay() int {
	return int(n) % weekSize
}

// week asks the week's Thursday, which is of the same year as the week. Were it behind DayMax, its year would be 10000.
func (n dayNumber) week() (int, int) {
	middle := n - dayNumber(n.weekDay()) + thursday
	year := middle.year()
	return year, int(middle-yearStart(year))/weekSize + 1
}

func partsOf(d Date) dateParts {
	return dateParts{d.Year, d.Month, d.Day}
}

func (p dateParts) date() Date {
	return Date{Year: p[0], Month: p[1], Day: p[2]}
}

func (p dateParts) number() dayNumber {
	day := int(yearStart(p[0])) + p[2] - 1
	for month := 1; month < p[1]; month++ {
		day += monthSize(p[0], month)
	}
	return dayNumber(day)
}

// plusMonths counts months from January of the year 1 on, so that one below 0 is of no year.
func (p dateParts) plusMonths(n int) Date {
	months := (p[0]-1)*monthMax + p[1] - 1 + n
	if months < 0 || months >= yearMax*monthMax {
		return Date{}
	}
	year, month := months/monthMax+1, months%monthMax+1
	return dateParts{year, month, min(p[2], monthSize(year, month))}.date()
}

// figures writes a number that is not below 0 and fits, with zeros ahead up to a width.
func figures(n int, width int) string {
	text := strconv.Itoa(n)
	return strings.Repeat("0", width-len(text)) + text
}

// figuresGet reads some figures; -1, which no part of a date or time is, if one is none.
func figuresGet(text string) int {
	n := 0
	for i := range len(text) {
		if text[i] < '0' || text[i] > '9' {
			return -1
		}
		n = n*10 + int(text[i]-'0')
	}
	return n
}
