package tests

import (
	"fmt"
	"math/rand"
	"regexp"
	"slices"
	"strconv"
	"strings"
	"testing"
	"time"

	"loop.example/ephemeris/impl"
)

// Rules done the long way: days one by one by the library's calendar, periods by walking over them, numbers by counting.

const (
	sight    = 11000
	nextSize = 366
)

func slowAscends(list []int, least int, most int) bool {
	if len(list) > 8 {
		return false
	}
	for i, n := range list {
		if n == 0 || n < least || n > most || slices.Contains(list[:i], n) {
			return false
		}
	}
	return slices.IsSorted(list)
}

func slowByOk(r impl.Rule) bool {
	num := map[int]int{1: 0, 2: 0, 3: 5, 4: 53}[r.Freq]
	if r.Freq == 4 && len(r.Months) > 0 {
		num = 5
	}
	// Numbers from -53 to 53 and days share one row, in which lists must ascend.
	var row []int
	for _, b := range r.Days {
		if b.Day < 0 || b.Day > 6 || b.Num < -num || b.Num > num {
			return false
		}
		row = append(row, 1+b.Day*200+b.Num+53)
	}
	return slowAscends(row, 1, 2000)
}

func slowRuleOk(r impl.Rule) bool {
	switch {
	case r.Freq < 1 || r.Freq > 4, r.Every < 1 || r.Every > 100, r.Count < 0 || r.Count > 500:
		return false
	case r.Until < 0 || r.Until > impl.DayMax, r.Count > 0 && r.Until > 0, r.Week < 0 || r.Week > 6:
		return false
	case r.Freq == 2 && len(r.Dates) > 0, len(r.Places) > 0 && len(r.Days)+len(r.Dates)+len(r.Months) == 0:
		return false
	}
	return slowByOk(r) && slowAscends(r.Dates, -31, 31) && slowAscends(r.Months, 1, 12) && slowAscends(r.Places, -366, 366)
}

func sameRule(a impl.Rule, b impl.Rule) bool {
	return a.Freq == b.Freq && a.Every == b.Every && a.Count == b.Count && a.Until == b.Until && a.Week == b.Week &&
		slices.Equal(a.Days, b.Days) && slices.Equal(a.Dates, b.Dates) && slices.Equal(a.Months, b.Months) && slices.Equal(a.Places, b.Places)
}

func copyRule(r impl.Rule) impl.Rule {
	r.Days, r.Dates, r.Months, r.Places = slices.Clone(r.Days), slices.Clone(r.Dates), slices.Clone(r.Months), slices.Clone(r.Places)
	return r
}

var weekNames = []string{"MO", "TU", "WE", "TH", "FR", "SA", "SU"}

func joined(list []int) string {
	return strings.ReplaceAll(strings.Trim(fmt.Sprint(list), "[]"), " ", ",")
}

func slowRulePut(r impl.Rule) string {
	if !slowRuleOk(r) {
		return ""
	}
	text := "FREQ=" + []string{"", "DAILY", "WEEKLY", "MONTHLY", "YEARLY"}[r.Freq]
	if r.Every != 1 {
		text += fmt.Sprintf(";INTERVAL=%d", r.Every)
	}
	if r.Count != 0 {
		text += fmt.Sprintf(";COUNT=%d", r.Count)
	}
	if r.Until != 0 {
		text += ";UNTIL=" + dayZero.AddDate(0, 0, r.Until).Format("2006-01-02")
	}
	for i, b := range r.Days {
		text += []string{";BYDAY=", ","}[min(i, 1)]
		if b.Num != 0 {
			text += fmt.Sprint(b.Num)
		}
		text += weekNames[b.Day]
	}
	for i, list := range [][]int{r.Dates, r.Months, r.Places} {
		if len(list) > 0 {
			text += []string{";BYMONTHDAY=", ";BYMONTH=", ";BYSETPOS="}[i] + joined(list)
		}
	}
	if r.Week != 0 {
		text += ";WKST=" + weekNames[r.Week]
	}
	return text
}

// What RulePut writes, by its form alone: numbers without needless zeros.
var ruleForm = regexp.MustCompile(`^FREQ=(DAILY|WEEKLY|MONTHLY|YEARLY)` +
	`(?:;INTERVAL=([1-9][0-9]{0,3}))?(?:;COUNT=([1-9][0-9]{0,3}))?(?:;UNTIL=([0-9]{4}-[0-9]{2}-[0-9]{2}))?` +
	`(?:;BYDAY=((?:-?[1-9][0-9]{0,3})?[A-Z]{2}(?:,(?:-?[1-9][0-9]{0,3})?[A-Z]{2})*))?` +
	`(?:;BYMONTHDAY=(-?[1-9][0-9]{0,3}(?:,-?[1-9][0-9]{0,3})*))?` +
	`(?:;BYMONTH=(-?[1-9][0-9]{0,3}(?:,-?[1-9][0-9]{0,3})*))?` +
	`(?:;BYSETPOS=(-?[1-9][0-9]{0,3}(?:,-?[1-9][0-9]{0,3})*))?` +
	`(?:;WKST=([A-Z]{2}))?$`)

func numbers(text string) []int {
	var list []int
	for _, piece := range strings.FieldsFunc(text, func(c rune) bool { return c == ',' }) {
		list = append(list, number(piece))
	}
	return list
}

func slowRuleGet(text string) (impl.Rule, bool) {
	m := ruleForm.FindStringSubmatch(text)
	if m == nil || len(text) > 300 {
		return impl.Rule{}, false
	}
	r := impl.Rule{Freq: strings.Index("DWMY", m[1][:1]) + 1, Every: 1, Count: number(m[3]), Dates: numbers(m[6]), Months: numbers(m[7]), Places: numbers(m[8])}
	if m[2] != "" {
		if r.Every = number(m[2]); r.Every == 1 {
			return impl.Rule{}, false
		}
	}
	if m[4] != "" {
		d, ok := goDateGet(m[4])
		if !ok || goDay(d) == 0 {
			return impl.Rule{}, false
		}
		r.Until = goDay(d)
	}
	if m[5] != "" {
		for _, piece := range strings.Split(m[5], ",") {
			at := len(piece) - 2
			r.Days = append(r.Days, impl.By{Num: number(piece[:at]), Day: slices.Index(weekNames, piece[at:])})
		}
	}
	if m[9] != "" {
		if r.Week = slices.Index(weekNames, m[9]); r.Week == 0 {
			return impl.Rule{}, false
		}
	}
	if !slowRuleOk(r) {
		return impl.Rule{}, false
	}
	return r, true
}

func goWeekDay(when time.Time) int {
	return (int(when.Weekday()) + 6) % 7
}

// counted is which of its day of the week a day is, walked by weeks towards one end as long as it is of the same month or year.
func counted(when time.Time, inMonth bool, step int) int {
	n := 1
	for {
		other := when.AddDate(0, 0, step*7*n)
		if other.Year() != when.Year() || inMonth && other.Month() != when.Month() {
			return n
		}
		n++
	}
}

func slowByHas(r impl.Rule, when time.Time) bool {
	inMonth := r.Freq == 3 || len(r.Months) > 0
	for _, b := range r.Days {
		if b.Day != goWeekDay(when) {
			continue
		}
		if b.Num == 0 || b.Num > 0 && counted(when, inMonth, -1) == b.Num || b.Num < 0 && counted(when, inMonth, 1) == -b.Num {
			return true
		}
	}
	return false
}

func slowChosen(r impl.Rule, start time.Time, when time.Time) bool {
	if len(r.Months) > 0 && !slices.Contains(r.Months, int(when.Month())) {
		return false
	}
	fromEnd := when.Day() - 1 - time.Date(when.Year(), when.Month()+1, 0, 0, 0, 0, 0, time.UTC).Day()
	if len(r.Dates) > 0 && !slices.Contains(r.Dates, when.Day()) && !slices.Contains(r.Dates, fromEnd) {
		return false
	}
	if len(r.Days) > 0 && !slowByHas(r, when) {
		return false
	}
	if len(r.Days) > 0 || len(r.Dates) > 0 || r.Freq == 1 {
		return true
	}
	if r.Freq == 2 {
		return when.Weekday() == start.Weekday()
	}
	return when.Day() == start.Day() && (r.Freq == 3 || len(r.Months) > 0 || when.Month() == start.Month())
}

func beginsPeriod(r impl.Rule, when time.Time) bool {
	switch r.Freq {
	case 1:
		return true
	case 2:
		return goWeekDay(when) == r.Week
	case 3:
		return when.Day() == 1
	}
	return when.YearDay() == 1
}

// slowPeriods is the days of each period, from that of start on, until one begins behind a day.
func slowPeriods(r impl.Rule, start int, to int) [][]int {
	first := start
	for first > 0 && !beginsPeriod(r, dayZero.AddDate(0, 0, first)) {
		first--
	}
	var list [][]int
	for day := first; day <= impl.DayMax; day++ {
		begins := beginsPeriod(r, dayZero.AddDate(0, 0, day))
		if begins && day > to {
			break
		}
		if begins || day == first {
			list = append(list, nil)
		}
		list[len(list)-1] = append(list[len(list)-1], day)
	}
	return list
}

// slowCounting is the days of a period that are chosen, and at one of the places.
func slowCounting(r impl.Rule, start int, days []int) []int {
	var chosen []int
	for _, day := range days {
		if slowChosen(r, dayZero.AddDate(0, 0, start), dayZero.AddDate(0, 0, day)) {
			chosen = append(chosen, day)
		}
	}
	if len(r.Places) == 0 {
		return chosen
	}
	var counting []int
	for _, place := range r.Places {
		if place < 0 {
			place += len(chosen) + 1
		}
		if place >= 1 && place <= len(chosen) {
			counting = append(counting, chosen[place-1])
		}
	}
	slices.Sort(counting)
	return slices.Compact(counting)
}

// slowComes is all days on which a rule that is ok comes, however many, up to a day.
func slowComes(r impl.Rule, start int, to int) []int {
	var days []int
	for n, period := range slowPeriods(r, start, to) {
		if n%r.Every != 0 {
			continue
		}
		for _, day := range slowCounting(r, start, period) {
			full := r.Count > 0 && len(days) == r.Count
			if day >= start && day <= to && !full && (r.Until == 0 || day <= r.Until) {
				days = append(days, day)
			}
		}
	}
	return days
}

// upTo is those of days that are not behind one, the first HitMax.
func upTo(days []int, to int) []int {
	var list []int
	for _, day := range days {
		if day <= to && len(list) < 200 {
			list = append(list, day)
		}
	}
	return list
}

// slowNext is the first of all days of a rule that RuleNext may tell.
func slowNext(days []int, start int, day int) int {
	for _, d := range days {
		if d >= day && d <= day+nextSize && d <= start+sight {
			return d
		}
	}
	return -1
}

func mustDay(t *testing.T, text string) int {
	t.Helper()
	d, ok := goDateGet(text)
	if !ok {
		t.Fatal(text)
	}
	return goDay(d)
}

func mustRule(t *testing.T, text string) impl.Rule {
	t.Helper()
	r, ok := slowRuleGet(text)
	if !ok || !impl.RuleOk(r) {
		t.Fatal(text)
	}
	return r
}

func someOf(rng *rand.Rand, least int, most int, size int) []int {
	var list []int
	for range size {
		n := least + rng.Intn(most-least+1)
		if n != 0 && !slices.Contains(list, n) {
			list = append(list, n)
		}
	}
	slices.Sort(list)
	return list
}

func someBys(rng *rand.Rand, num int, size int) []impl.By {
	var list []impl.By
	for range size {
		b := impl.By{Day: rng.Intn(7)}
		if num > 0 && rng.Intn(3) > 0 {
			b.Num = rng.Intn(2*num+1) - num
		}
		if !slices.Contains(list, b) {
			list = append(list, b)
		}
	}
	slices.SortFunc(list, func(a, b impl.By) int { return a.Day*200 + a.Num - b.Day*200 - b.Num })
	return list
}

// someRule is a rule that is ok, without Count and Until.
func someRule(rng *rand.Rand) impl.Rule {
	r := impl.Rule{Freq: 1 + rng.Intn(4), Every: 1, Week: rng.Intn(7)}
	if rng.Intn(2) == 0 {
		r.Every = 1 + rng.Intn([]int{3, 5, 13, 100}[rng.Intn(4)])
	}
	if rng.Intn(3) == 0 {
		r.Months = someOf(rng, 1, 12, rng.Intn(9))
	}
	if r.Freq != 2 && rng.Intn(3) == 0 {
		r.Dates = someOf(rng, -31, 31, rng.Intn(9))
	}
	if rng.Intn(2) == 0 {
		num := 0
		if r.Freq == 3 || r.Freq == 4 && len(r.Months) > 0 {
			num = 5
		} else if r.Freq == 4 {
			num = 53
		}
		r.Days = someBys(rng, num, rng.Intn(9))
	}
	if len(r.Days)+len(r.Dates)+len(r.Months) > 0 && rng.Intn(3) == 0 {
		most := []int{2, 5, 40, 366}[rng.Intn(4)]
		r.Places = someOf(rng, -most, most, rng.Intn(9))
	}
	return r
}

// someStart is a day, often one at which something ends.
func someStart(rng *rand.Rand) int {
	switch rng.Intn(8) {
	case 0:
		return rng.Intn(10)
	case 1:
		return impl.DayMax - rng.Intn(500)
	case 2:
		return goDay(impl.Date{Year: 4 * (1 + rng.Intn(2499)), Month: 2, Day: 28}) + rng.Intn(3)
	case 3:
		return goDay(impl.Date{Year: 1 + rng.Intn(9999), Month: 1 + rng.Intn(12), Day: 1}) + 28 + rng.Intn(3)
	}
	return rng.Intn(impl.DayMax - 400)
}

// someRules calls for many rules, each with a start, and the same ones each time.
func someRules(seed int64, n int, each func(rng *rand.Rand, r impl.Rule, start int)) {
	rng := rand.New(rand.NewSource(seed))
	for range n {
		each(rng, someRule(rng), min(someStart(rng), impl.DayMax))
	}
}

func ruleAt(r impl.Rule, start int) string {
	return slowRulePut(r) + " from " + impl.DateText(impl.DateOf(start)) + " (" + strconv.Itoa(start) + ")"
}
