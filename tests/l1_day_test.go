package tests

import (
	"fmt"
	"math"
	"testing"
	"time"

	"loop.example/ephemeris/impl"
)

func TestDayLimits(t *testing.T) {
	if impl.DayMax != 3652058 {
		t.Error(impl.DayMax)
	}
}

// P1
func TestYearLeap(t *testing.T) {
	for year := -500; year <= 10500; year++ {
		want := isYear(year) && time.Date(year, 12, 31, 0, 0, 0, 0, time.UTC).YearDay() == 366
		if impl.YearLeap(year) != want {
			t.Errorf("year %d: %v", year, !want)
		}
		if (impl.MonthDays(year, 2) == 29) != want {
			t.Errorf("year %d: February has %d", year, impl.MonthDays(year, 2))
		}
		if isYear(year) && isYear(year+400) && impl.YearLeap(year) != impl.YearLeap(year+400) {
			t.Errorf("year %d is not as 400 years later", year)
		}
	}
	for _, year := range []int{math.MinInt, math.MinInt + 400, -4, -400, 0, 10000, 10004, 12000, math.MaxInt - 3, math.MaxInt} {
		if impl.YearLeap(year) {
			t.Errorf("year %d is none", year)
		}
	}
}

// P2
func TestMonthDays(t *testing.T) {
	for year := -3; year <= 10003; year++ {
		days := 0
		for month := -2; month <= 15; month++ {
			n := impl.MonthDays(year, month)
			if n != goMonthDays(year, month) {
				t.Errorf("%d-%d: %d", year, month, n)
			}
			days += n
		}
		next := impl.DayMax + 1
		if year < 9999 {
			next = impl.DayOf(impl.Date{Year: year + 1, Month: 1, Day: 1})
		}
		if isYear(year) && days != next-impl.DayOf(impl.Date{Year: year, Month: 1, Day: 1}) {
			t.Errorf("year %d has %d", year, days)
		}
	}
	for _, wild := range []int{math.MinInt, math.MaxInt} {
		if impl.MonthDays(wild, 1) != 0 || impl.MonthDays(2026, wild) != 0 || impl.MonthDays(wild, wild) != 0 {
			t.Errorf("%d", wild)
		}
	}
}

// P3: days and dates side by side, from the first of the calendar to the last.
func TestDaysAndDates(t *testing.T) {
	day := 0
	for year := 1; year <= 9999; year++ {
		for month := 1; month <= 12; month++ {
			for n := 1; n <= goMonthDays(year, month); n++ {
				d := impl.Date{Year: year, Month: month, Day: n}
				if !impl.DateOk(d) || impl.DayOf(d) != day || impl.DateOf(day) != d {
					t.Fatalf("%v: %v %d, %d: %v", d, impl.DateOk(d), impl.DayOf(d), day, impl.DateOf(day))
				}
				day++
			}
		}
	}
	if day != impl.DayMax+1 {
		t.Errorf("there are %d days", day)
	}
}

// P3, against the library, which counts by itself.
func TestDaysOfLibrary(t *testing.T) {
	for day := 0; day <= impl.DayMax; day += 97 {
		if impl.DateOf(day) != goDate(day) || impl.DayOf(goDate(day)) != day {
			t.Fatalf("day %d: %v", day, impl.DateOf(day))
		}
	}
	for _, c := range []struct {
		date impl.Date
		day  int
	}{
		{impl.Date{Year: 1, Month: 1, Day: 1}, 0},
		{impl.Date{Year: 1, Month: 12, Day: 31}, 364},
		{impl.Date{Year: 4, Month: 2, Day: 29}, 1154},
		{impl.Date{Year: 400, Month: 12, Day: 31}, 146096},
		{impl.Date{Year: 2026, Month: 11, Day: 16}, 739935},
		{impl.Date{Year: 9999, Month: 12, Day: 31}, impl.DayMax},
	} {
		if impl.DayOf(c.date) != c.day || impl.DateOf(c.day) != c.date {
			t.Errorf("%v: %d, %d: %v", c.date, impl.DayOf(c.date), c.day, impl.DateOf(c.day))
		}
	}
}

// P3: what is no date has no number.
func TestNoDate(t *testing.T) {
	parts := append([]int{4, 5, 11, 30, 1900, 2000}, wildInts...)
	for _, year := range parts {
		for _, month := range parts {
			for _, day := range parts {
				d := impl.Date{Year: year, Month: month, Day: day}
				want := -1
				if goDateOk(d) {
					want = goDay(d)
				}
				if impl.DateOk(d) != (want >= 0) || impl.DayOf(d) != want {
					t.Errorf("%v: %v %d", d, impl.DateOk(d), impl.DayOf(d))
				}
			}
		}
	}
	for _, d := range []impl.Date{{}, {Year: 2026, Month: 2, Day: 29}, {Year: 1900, Month: 2, Day: 29}, {Year: 2024, Month: 2, Day: 30}, {Year: 2026, Month: 4, Day: 31}, {Year: 0, Month: 12, Day: 31}, {Year: 10000, Month: 1, Day: 1}, {Year: 2026, Month: 0, Day: 1}, {Year: 2026, Month: 13, Day: 1}, {Year: 2026, Month: 1, Day: 0}, {Year: 2026, Month: 1, Day: 32}} {
		if impl.DateOk(d) || impl.DayOf(d) != -1 {
			t.Errorf("%v is a date, day %d", d, impl.DayOf(d))
		}
	}
}

// P3, P4, P5: what is no day has no date, no day of the week and no week.
func TestNoDay(t *testing.T) {
	for _, day := range append([]int{-7, -2, impl.DayMax + 2, impl.DayMax + 7}, wildInts...) {
		if isDay(day) {
			continue
		}
		year, week := impl.WeekOf(day)
		if impl.DateOf(day) != (impl.Date{}) || impl.WeekDay(day) != -1 || year != 0 || week != 0 {
			t.Errorf("%d: %v %d %d %d", day, impl.DateOf(day), impl.WeekDay(day), year, week)
		}
	}
}

// P4
func TestWeekDay(t *testing.T) {
	if impl.WeekDay(0) != 0 || impl.WeekDay(6) != 6 || impl.WeekDay(impl.DayMax) != 4 {
		t.Error(impl.WeekDay(0), impl.WeekDay(6), impl.WeekDay(impl.DayMax))
	}
	want := 0
	for day := 0; day <= impl.DayMax; day++ {
		if impl.WeekDay(day) != want {
			t.Fatalf("day %d: %d", day, impl.WeekDay(day))
		}
		want = (want + 1) % 7
	}
}

// P5, P41: all days, against the library.
func TestWeekOf(t *testing.T) {
	for day := 0; day <= impl.DayMax; day++ {
		year, week := impl.WeekOf(day)
		wantYear, wantWeek := dayZero.AddDate(0, 0, day).ISOWeek()
		if year != wantYear || week != wantWeek {
			t.Fatalf("day %d: %d %d, not %d %d", day, year, week, wantYear, wantWeek)
		}
	}
}

// P5: a week is the same from Monday to Sunday, of its Thursday's year; the next one follows it.
func TestWeeksInOrder(t *testing.T) {
	lastYear, lastWeek := 1, 0
	for monday := 0; monday <= impl.DayMax; monday += 7 {
		year, week := impl.WeekOf(monday)
		for day := monday; day < monday+7 && day <= impl.DayMax; day++ {
			if y, w := impl.WeekOf(day); y != year || w != week {
				t.Fatalf("day %d: %d %d, Monday %d %d", day, y, w, year, week)
			}
		}
		if impl.DateOf(monday+3).Year != year {
			t.Fatalf("day %d: %d", monday, year)
		}
		next := year == lastYear && week == lastWeek+1
		newYear := year == lastYear+1 && week == 1
		if !next && !newYear {
			t.Fatalf("day %d: %d %d behind %d %d", monday, year, week, lastYear, lastWeek)
		}
		lastYear, lastWeek = year, week
	}
}

// P5, P41: weeks around January 1, and the week of the last days.
func TestWeekEdges(t *testing.T) {
	for _, c := range []struct {
		date       string
		year, week int
	}{
		{"0001-01-01", 1, 1}, {"0001-01-07", 1, 1}, {"0001-01-08", 1, 2},
		{"2020-12-31", 2020, 53}, {"2021-01-03", 2020, 53}, {"2021-01-04", 2021, 1},
		{"2024-12-29", 2024, 52}, {"2024-12-30", 2025, 1}, {"2025-01-01", 2025, 1},
		{"2026-01-01", 2026, 1}, {"2025-12-29", 2026, 1}, {"2027-01-01", 2026, 53}, {"2027-01-03", 2026, 53},
		{"2027-01-04", 2027, 1}, {"2023-01-01", 2022, 52}, {"2024-02-29", 2024, 9},
		{"9999-01-01", 9998, 53}, {"9999-01-03", 9998, 53}, {"9999-01-04", 9999, 1},
		{"9999-12-26", 9999, 51}, {"9999-12-27", 9999, 52}, {"9999-12-31", 9999, 52},
	} {
		d, _ := goDateGet(c.date)
		if year, week := impl.WeekOf(goDay(d)); year != c.year || week != c.week {
			t.Errorf("%s: %d %d", c.date, year, week)
		}
	}
}

// P41
func TestYearSize(t *testing.T) {
	for year := 1; year <= 9999; year++ {
		first, last := impl.DayOf(impl.Date{Year: year, Month: 1, Day: 1}), impl.DayOf(impl.Date{Year: year, Month: 12, Day: 31})
		want := 365
		if impl.YearLeap(year) {
			want = 366
		}
		if last-first+1 != want {
			t.Errorf("year %d has %d days", year, last-first+1)
		}
		y, w := impl.WeekOf(impl.DayOf(impl.Date{Year: year, Month: 12, Day: 28}))
		if y != year || w != 52 && w != 53 {
			t.Errorf("December 28 of %d: %d %d", year, y, w)
		}
		for day := first; day <= last; day++ {
			if y, w := impl.WeekOf(day); y < year-1 || y > year+1 || w < 1 || w > 53 {
				t.Fatalf("year %d, day %d: %d %d", year, day, y, w)
			}
		}
	}
}

// slowMonthAdd goes by the document's sentence, with months counted from the year 0 on.
func slowMonthAdd(d impl.Date, n int) impl.Date {
	if !goDateOk(d) || n < -120000 || n > 120000 {
		return impl.Date{}
	}
	months := d.Year*12 + d.Month - 1 + n
	if months < 12 || months > 9999*12+11 {
		return impl.Date{}
	}
	out := impl.Date{Year: months / 12, Month: months%12 + 1, Day: d.Day}
	for !goDateOk(out) {
		out.Day--
	}
	return out
}

// P6: some dates with all numbers of months that may be asked, and one past each end.
func TestMonthAddAll(t *testing.T) {
	for _, d := range []impl.Date{{Year: 1, Month: 1, Day: 1}, {Year: 1, Month: 1, Day: 31}, {Year: 2000, Month: 2, Day: 29}, {Year: 5000, Month: 6, Day: 15}, {Year: 9999, Month: 12, Day: 31}} {
		for n := -120001; n <= 120001; n++ {
			if got := impl.MonthAdd(d, n); got != slowMonthAdd(d, n) {
				t.Fatalf("%v and %d: %v", d, n, got)
			}
		}
	}
}

// P6: all days of some years with few months; 12 are the next year.
func TestMonthAddNear(t *testing.T) {
	for _, year := range []int{1, 4, 1900, 2000, 2023, 2024, 9999} {
		for month := 1; month <= 12; month++ {
			for day := 1; day <= goMonthDays(year, month); day++ {
				d := impl.Date{Year: year, Month: month, Day: day}
				for n := -50; n <= 50; n++ {
					if got := impl.MonthAdd(d, n); got != slowMonthAdd(d, n) {
						t.Fatalf("%v and %d: %v", d, n, got)
					}
				}
				want := impl.Date{Year: year + 1, Month: month, Day: min(day, goMonthDays(year+1, month))}
				if year == 9999 {
					want = impl.Date{}
				}
				if impl.MonthAdd(d, 12) != want {
					t.Errorf("%v and a year: %v", d, impl.MonthAdd(d, 12))
				}
			}
		}
	}
}

// P6: the edges by name, and what is no date.
func TestMonthAddEdges(t *testing.T) {
	first, last := impl.Date{Year: 1, Month: 1, Day: 31}, impl.Date{Year: 9999, Month: 12, Day: 31}
	for _, c := range []struct {
		from impl.Date
		n    int
		to   impl.Date
	}{
		{impl.Date{Year: 2026, Month: 1, Day: 31}, 1, impl.Date{Year: 2026, Month: 2, Day: 28}},
		{impl.Date{Year: 2024, Month: 1, Day: 31}, 1, impl.Date{Year: 2024, Month: 2, Day: 29}},
		{impl.Date{Year: 2024, Month: 2, Day: 29}, 12, impl.Date{Year: 2025, Month: 2, Day: 28}},
		{impl.Date{Year: 2024, Month: 2, Day: 29}, 48, impl.Date{Year: 2028, Month: 2, Day: 29}},
		{impl.Date{Year: 2026, Month: 3, Day: 31}, -1, impl.Date{Year: 2026, Month: 2, Day: 28}},
		{impl.Date{Year: 2026, Month: 12, Day: 15}, 2, impl.Date{Year: 2027, Month: 2, Day: 15}},
		{impl.Date{Year: 2027, Month: 1, Day: 15}, -1, impl.Date{Year: 2026, Month: 12, Day: 15}},
		{first, 0, first}, {last, 0, last},
		{first, 119987, last}, {first, 119988, impl.Date{}}, {first, -1, impl.Date{}},
		{last, -119987, first}, {last, -119988, impl.Date{}}, {last, 1, impl.Date{}},
		{first, 120000, impl.Date{}}, {first, 120001, impl.Date{}}, {first, -120000, impl.Date{}}, {first, -120001, impl.Date{}},
		{last, 120000, impl.Date{}}, {last, 120001, impl.Date{}}, {last, -120000, impl.Date{}}, {last, -120001, impl.Date{}},
		{first, math.MaxInt, impl.Date{}}, {first, math.MinInt, impl.Date{}}, {last, math.MaxInt, impl.Date{}}, {last, math.MinInt, impl.Date{}},
		{impl.Date{}, 0, impl.Date{}}, {impl.Date{}, 12, impl.Date{}},
		{impl.Date{Year: 2026, Month: 2, Day: 29}, 0, impl.Date{}}, {impl.Date{Year: 2026, Month: 2, Day: 30}, 1, impl.Date{}},
		{impl.Date{Year: 2026, Month: 13, Day: 1}, 1, impl.Date{}}, {impl.Date{Year: 0, Month: 12, Day: 1}, 1, impl.Date{}},
		{impl.Date{Year: 10000, Month: 1, Day: 1}, -1, impl.Date{}}, {impl.Date{Year: 2026, Month: 1, Day: 0}, 1, impl.Date{}},
	} {
		if got := impl.MonthAdd(c.from, c.n); got != c.to {
			t.Errorf("%v and %d: %v", c.from, c.n, got)
		}
	}
}

// P40
func TestMonthAddTwice(t *testing.T) {
	steps := []int{-60000, -1201, -400, -13, -12, -1, 0, 1, 2, 11, 12, 13, 500, 1200, 4800, 60000}
	for _, year := range []int{1, 2, 1999, 2024, 5001, 9998, 9999} {
		for month := 1; month <= 12; month++ {
			for _, day := range []int{1, 15, 28} {
				d := impl.Date{Year: year, Month: month, Day: day}
				for _, a := range steps {
					between := impl.MonthAdd(d, a)
					if between == (impl.Date{}) {
						continue
					}
					for _, b := range steps {
						if got := impl.MonthAdd(between, b); got != impl.MonthAdd(d, a+b) {
							t.Fatalf("%v and %d, %d: %v", d, a, b, got)
						}
					}
				}
			}
		}
	}
}

// P7
func TestDateText(t *testing.T) {
	for day := 0; day <= impl.DayMax; day++ {
		d := impl.DateOf(day)
		text := impl.DateText(d)
		if day%101 == 0 && text != fmt.Sprintf("%04d-%02d-%02d", d.Year, d.Month, d.Day) {
			t.Fatalf("%v: %q", d, text)
		}
		if got, ok := impl.DateGet(text); !ok || got != d {
			t.Fatalf("%q: %v %v", text, got, ok)
		}
	}
	for _, c := range []struct {
		date impl.Date
		text string
	}{
		{impl.Date{Year: 1, Month: 1, Day: 1}, "0001-01-01"}, {impl.Date{Year: 2026, Month: 11, Day: 6}, "2026-11-06"}, {impl.Date{Year: 2024, Month: 2, Day: 29}, "2024-02-29"}, {impl.Date{Year: 9999, Month: 12, Day: 31}, "9999-12-31"},
		{impl.Date{}, ""}, {impl.Date{Year: 2026, Month: 2, Day: 29}, ""}, {impl.Date{Year: 10000, Month: 1, Day: 1}, ""}, {impl.Date{Year: -1, Month: 1, Day: 1}, ""}, {impl.Date{Year: 2026, Month: 1, Day: 100}, ""}, {impl.Date{Year: math.MaxInt, Month: math.MaxInt, Day: math.MaxInt}, ""},
	} {
		if got := impl.DateText(c.date); got != c.text {
			t.Errorf("%v: %q", c.date, got)
		}
	}
}

func checkDateGet(t *testing.T, text string) {
	t.Helper()
	want, ok := goDateGet(text)
	if got, is := impl.DateGet(text); got != want || is != ok {
		t.Errorf("%q: %v %v", text, got, is)
	} else if is && impl.DateText(got) != text {
		t.Errorf("%q is written %q", text, impl.DateText(got))
	}
}

// P7: texts that are not just as the document writes them.
func TestDateGet(t *testing.T) {
	for _, base := range []string{"2026-11-16", "0001-01-01", "9999-12-31", "2024-02-29", "2023-02-28"} {
		for _, text := range nearTexts(base) {
			checkDateGet(t, text)
		}
	}
	for _, year := range []string{"0000", "0001", "0004", "1900", "2000", "2023", "2024", "9999"} {
		for month := range 100 {
			for day := range 100 {
				checkDateGet(t, fmt.Sprintf("%s-%02d-%02d", year, month, day))
			}
		}
	}
	for _, text := range []string{"2026-1-01", "2026-01-1", "26-01-01", "10000-01-01", "02026-01-01", "+026-01-01", "-026-01-01", "2026-+1-01", "2026--1-01", "2026-01-+1", " 026-01-01", "2026-01-01 ", "2026-01-01\n", "2026/01/01", "20260101", "2026-01-01T00:00", "٢٠٢٦-01-01", "2026–01–01", "2026-0１-01", "yyyy-mm-dd", "2_26-01-01", "0x26-01-01"} {
		if got, ok := impl.DateGet(text); ok || got != (impl.Date{}) {
			t.Errorf("%q: %v %v", text, got, ok)
		}
	}
}
