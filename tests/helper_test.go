package tests

import (
	"math"
	"regexp"
	"strconv"
	"time"

	"loop.example/ephemeris/impl"
)

// What the tests hold the program against: the calendar of Go's library, and the document's words done the long way.

const (
	dayMinutes = 1440
	turnApart  = 10080
)

var dayZero = time.Date(1, 1, 1, 0, 0, 0, 0, time.UTC)

// wildInts are numbers that nothing is made for, and those around what is.
var wildInts = []int{
	math.MinInt, math.MinInt + 1, math.MinInt / 2, math.MinInt32, -120001, -120000, -1441, -1, 0, 1, 2, 3,
	12, 13, 28, 29, 31, 32, 400, 1440, 1441, 2024, 9999, 10000, 120000, 120001, math.MaxInt32,
	impl.DayMax - 1, impl.DayMax, impl.DayMax + 1, impl.TimeMax - 1, impl.TimeMax, impl.TimeMax + 1,
	math.MaxInt / 12, math.MaxInt / 2, math.MaxInt - 1, math.MaxInt,
}

func isYear(year int) bool { return year >= 1 && year <= 9999 }

func isDay(day int) bool { return day >= 0 && day <= impl.DayMax }

func isTime(at int) bool { return at >= 0 && at <= impl.TimeMax }

// goDay is the library's number of a day, counted from day 0.
func goDay(d impl.Date) int {
	when := time.Date(d.Year, time.Month(d.Month), d.Day, 0, 0, 0, 0, time.UTC)
	return int((when.Unix() - dayZero.Unix()) / 86400)
}

func goDate(day int) impl.Date {
	when := dayZero.AddDate(0, 0, day)
	return impl.Date{Year: when.Year(), Month: int(when.Month()), Day: when.Day()}
}

// goMonthDays is how many days a month has: the library's day 0 of the next one.
func goMonthDays(year int, month int) int {
	if !isYear(year) || month < 1 || month > 12 {
		return 0
	}
	return time.Date(year, time.Month(month)+1, 0, 0, 0, 0, 0, time.UTC).Day()
}

func goDateOk(d impl.Date) bool {
	return d.Day >= 1 && d.Day <= goMonthDays(d.Year, d.Month)
}

var (
	dateForm = regexp.MustCompile(`^([0-9]{4})-([0-9]{2})-([0-9]{2})$`)
	timeForm = regexp.MustCompile(`^([0-9]{4}-[0-9]{2}-[0-9]{2})T([0-9]{2}):([0-9]{2})$`)
)

func number(text string) int {
	n, _ := strconv.Atoi(text)
	return n
}

func goDateGet(text string) (impl.Date, bool) {
	m := dateForm.FindStringSubmatch(text)
	if m == nil {
		return impl.Date{}, false
	}
	d := impl.Date{Year: number(m[1]), Month: number(m[2]), Day: number(m[3])}
	if !goDateOk(d) {
		return impl.Date{}, false
	}
	return d, true
}

func goTimeGet(text string) (int, bool) {
	m := timeForm.FindStringSubmatch(text)
	if m == nil {
		return 0, false
	}
	d, ok := goDateGet(m[1])
	if !ok || number(m[2]) > 23 || number(m[3]) > 59 {
		return 0, false
	}
	return goDay(d)*dayMinutes + number(m[2])*60 + number(m[3]), true
}

// nearTexts is a text and all that differ from it by a byte: another one in its place, one more, one fewer.
func nearTexts(text string) []string {
	list := []string{text, "", text + text}
	for i := range len(text) + 1 {
		for b := range 256 {
			list = append(list, text[:i]+string([]byte{byte(b)})+text[i:])
			if i < len(text) {
				list = append(list, text[:i]+string([]byte{byte(b)})+text[i+1:])
			}
		}
		if i < len(text) {
			list = append(list, text[:i]+text[i+1:], text[:i], text[i:])
		}
	}
	return list
}

var nameForm = regexp.MustCompile(`^[a-z0-9]{1,8}$`)

func slowNameOk(name string) bool {
	return nameForm.MatchString(name)
}

func slowZoneOk(z impl.Zone) bool {
	shifts := []int{z.Shift}
	for i, turn := range z.Turns {
		shifts = append(shifts, turn.Shift)
		if !isTime(turn.At) || i > 0 && turn.At < z.Turns[i-1].At+turnApart {
			return false
		}
	}
	for _, shift := range shifts {
		if shift < -1440 || shift > 1440 {
			return false
		}
	}
	return slowNameOk(z.Name) && len(z.Turns) <= 8
}

// slowShift goes from the last turn back.
func slowShift(z impl.Zone, at int) int {
	for i := len(z.Turns) - 1; i >= 0; i-- {
		if z.Turns[i].At <= at {
			return z.Turns[i].Shift
		}
	}
	return z.Shift
}

// slowWorld is the document's sentence on ZoneWorld, given all times at which the clock shows local.
func slowWorld(z impl.Zone, local int, times []int) int {
	if len(times) > 0 {
		return times[0]
	}
	ahead := z.Shift
	for _, turn := range z.Turns {
		if local-ahead >= turn.At && local-turn.Shift < turn.At {
			if isTime(local - ahead) {
				return local - ahead
			}
			return -1
		}
		ahead = turn.Shift
	}
	return -1
}
