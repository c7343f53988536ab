package tests

import (
	"math"
	"math/rand"
	"slices"
	"strings"
	"testing"

	"loop.example/ephemeris/impl"
)

func TestRuleLimits(t *testing.T) {
	if impl.FreqDay != 1 || impl.FreqWeek != 2 || impl.FreqMonth != 3 || impl.FreqYear != 4 {
		t.Error("freq")
	}
	if impl.EveryMax != 100 || impl.CountMax != 500 || impl.ByMax != 8 || impl.HitMax != 200 {
		t.Error("limits")
	}
}

func checkRuleOk(t *testing.T, r impl.Rule, want bool) {
	t.Helper()
	if slowRuleOk(r) != want {
		t.Errorf("%+v: the test's own answer is %v", r, !want)
	}
	if impl.RuleOk(r) != want {
		t.Errorf("%+v: %v", r, !want)
	}
	if text := impl.RulePut(r); text != slowRulePut(r) {
		t.Errorf("%+v: %q", r, text)
	}
}

// Numbers of a rule at each limit, and one past it.
func TestRuleOkNumbers(t *testing.T) {
	day := impl.Rule{Freq: impl.FreqDay, Every: 1}
	for _, n := range append([]int{4, 5, 6, 7, 99, 100, 101, 499, 500, 501}, wildInts...) {
		r := day
		r.Freq = n
		checkRuleOk(t, r, n >= 1 && n <= 4)
		r = day
		r.Every = n
		checkRuleOk(t, r, n >= 1 && n <= 100)
		r = day
		r.Count = n
		checkRuleOk(t, r, n >= 0 && n <= 500)
		r = day
		r.Until = n
		checkRuleOk(t, r, isDay(n))
		r.Count = 1
		checkRuleOk(t, r, n == 0)
		r = day
		r.Week = n
		checkRuleOk(t, r, n >= 0 && n <= 6)
	}
	checkRuleOk(t, impl.Rule{}, false)
	checkRuleOk(t, impl.Rule{Freq: impl.FreqDay, Every: 1, Count: 500, Until: impl.DayMax}, false)
	checkRuleOk(t, impl.Rule{Freq: impl.FreqDay, Every: 100, Count: 500, Week: 6}, true)
	checkRuleOk(t, impl.Rule{Freq: impl.FreqYear, Every: 100, Until: impl.DayMax, Week: 6}, true)
}

// Each list with one number, and with two, for each Freq.
func TestRuleOkLists(t *testing.T) {
	some := append([]int{-367, -366, -365, -54, -53, -32, -31, -30, -6, -5, -2, 4, 5, 6, 11, 30, 53, 54, 365, 366, 367}, wildInts...)
	for freq := range 6 {
		known := freq >= 1 && freq <= 4
		for _, n := range some {
			checkRuleOk(t, impl.Rule{Freq: freq, Every: 1, Dates: []int{n}}, known && freq != 2 && n != 0 && n >= -31 && n <= 31)
			checkRuleOk(t, impl.Rule{Freq: freq, Every: 1, Months: []int{n}}, known && n >= 1 && n <= 12)
			checkRuleOk(t, impl.Rule{Freq: freq, Every: 1, Places: []int{n}}, false)
			placed := known && n != 0 && n >= -366 && n <= 366
			checkRuleOk(t, impl.Rule{Freq: freq, Every: 1, Places: []int{n}, Months: []int{1}}, placed)
			checkRuleOk(t, impl.Rule{Freq: freq, Every: 1, Places: []int{n}, Days: []impl.By{{Day: 1}}}, placed)
			checkRuleOk(t, impl.Rule{Freq: freq, Every: 1, Places: []int{n}, Dates: []int{1}}, placed && freq != 2)
			for _, m := range some {
				checkRuleOk(t, impl.Rule{Freq: freq, Every: 1, Dates: []int{n, m}}, known && freq != 2 && n != 0 && m != 0 && n >= -31 && n < m && m <= 31)
				checkRuleOk(t, impl.Rule{Freq: freq, Every: 1, Months: []int{n, m}}, known && n >= 1 && n < m && m <= 12)
				checkRuleOk(t, impl.Rule{Freq: freq, Every: 1, Months: []int{1}, Places: []int{n, m}}, known && n != 0 && m != 0 && n >= -366 && n < m && m <= 366)
			}
		}
	}
}

func TestRuleOkDays(t *testing.T) {
	for freq := 1; freq <= 4; freq++ {
		for _, months := range [][]int{nil, {}, {3}} {
			num := 0
			if freq == 3 || freq == 4 && len(months) > 0 {
				num = 5
			} else if freq == 4 {
				num = 53
			}
			for n := -60; n <= 60; n++ {
				for day := -2; day <= 8; day++ {
					r := impl.Rule{Freq: freq, Every: 1, Months: months, Days: []impl.By{{Num: n, Day: day}}}
					checkRuleOk(t, r, day >= 0 && day <= 6 && n >= -num && n <= num)
				}
			}
			for _, wild := range []int{math.MinInt, math.MinInt32, math.MaxInt32, math.MaxInt} {
				checkRuleOk(t, impl.Rule{Freq: freq, Every: 1, Months: months, Days: []impl.By{{Num: wild}}}, false)
				checkRuleOk(t, impl.Rule{Freq: freq, Every: 1, Months: months, Days: []impl.By{{Day: wild}}}, false)
			}
			for a := range 4 * 7 {
				for b := range 4 * 7 {
					x, y := impl.By{Num: a%4 - 2, Day: a / 4}, impl.By{Num: b%4 - 2, Day: b / 4}
					r := impl.Rule{Freq: freq, Every: 1, Months: months, Days: []impl.By{x, y}}
					inOrder := x.Day < y.Day || x.Day == y.Day && x.Num < y.Num
					checkRuleOk(t, r, inOrder && (num > 0 || x.Num == 0 && y.Num == 0))
				}
			}
		}
	}
}

// Lists of ByMax, and of one more.
func TestRuleOkSizes(t *testing.T) {
	for size := range 12 {
		var days []impl.By
		var list []int
		for n := 1; n <= size; n++ {
			days = append(days, impl.By{Num: n % 6, Day: n / 6})
			list = append(list, n)
		}
		month := impl.Rule{Freq: impl.FreqMonth, Every: 1}
		for i := range 4 {
			r := month
			switch i {
			case 0:
				r.Days = days
			case 1:
				r.Dates = list
			case 2:
				r.Months = list
			case 3:
				r.Dates, r.Places = []int{1}, list
			}
			checkRuleOk(t, r, size <= 8)
		}
	}
	for _, size := range []int{9, 100, 100000} {
		list := make([]int, size)
		for i := range list {
			list[i] = i + 1
		}
		bys := make([]impl.By, size)
		for _, r := range []impl.Rule{{Dates: list}, {Months: list}, {Dates: []int{1}, Places: list}, {Days: bys}} {
			r.Freq, r.Every = impl.FreqMonth, 1
			checkRuleOk(t, r, false)
		}
	}
}

// P12: rules of all sorts are written as the document says, and read back.
func TestRuleText(t *testing.T) {
	someRules(12, 20000, func(rng *rand.Rand, r impl.Rule, start int) {
		switch rng.Intn(3) {
		case 0:
			r.Count = rng.Intn(501)
		case 1:
			r.Until = start
		}
		checkRuleOk(t, r, true)
		text := impl.RulePut(r)
		if got, ok := impl.RuleGet(text); !ok || !sameRule(got, r) {
			t.Fatalf("%q: %+v %v", text, got, ok)
		}
	})
}

// P12, by texts: the longest one is of 215 bytes, so that none comes near the limit.
func TestRuleTexts(t *testing.T) {
	longest := "FREQ=MONTHLY;INTERVAL=100;UNTIL=9999-12-31;BYDAY=-5MO,-4MO,-3MO,-2MO,-1MO,-5TU,-4TU,-3TU;BYMONTHDAY=-31,-30,-29,-28,-27,-26,-25,-24;BYMONTH=5,6,7,8,9,10,11,12;BYSETPOS=-366,-365,-364,-363,-362,-361,-360,-359;WKST=SU"
	if len(longest) != 215 {
		t.Error(len(longest))
	}
	for _, c := range []struct {
		text string
		rule impl.Rule
	}{
		{"FREQ=DAILY", impl.Rule{Freq: 1, Every: 1}},
		{"FREQ=DAILY;INTERVAL=100;COUNT=500;WKST=SU", impl.Rule{Freq: 1, Every: 100, Count: 500, Week: 6}},
		{"FREQ=WEEKLY;UNTIL=9999-12-31;BYDAY=MO,TU,WE,TH,FR,SA,SU;WKST=TU", impl.Rule{Freq: 2, Every: 1, Until: impl.DayMax, Days: []impl.By{{Day: 0}, {Day: 1}, {Day: 2}, {Day: 3}, {Day: 4}, {Day: 5}, {Day: 6}}, Week: 1}},
		{"FREQ=DAILY;UNTIL=0001-01-02", impl.Rule{Freq: 1, Every: 1, Until: 1}},
		{"FREQ=MONTHLY;COUNT=1;BYDAY=-5MO,MO,5MO,-1SU;BYMONTHDAY=-31,-1,1,31;BYMONTH=1,2,12;BYSETPOS=-366,-1,1,366", impl.Rule{Freq: 3, Every: 1, Count: 1, Days: []impl.By{{Num: -5, Day: 0}, {Num: 0, Day: 0}, {Num: 5, Day: 0}, {Num: -1, Day: 6}}, Dates: []int{-31, -1, 1, 31}, Months: []int{1, 2, 12}, Places: []int{-366, -1, 1, 366}}},
		{"FREQ=YEARLY;INTERVAL=4;BYDAY=-53SA,53SA", impl.Rule{Freq: 4, Every: 4, Days: []impl.By{{Num: -53, Day: 5}, {Num: 53, Day: 5}}}},
		{"FREQ=YEARLY;BYDAY=-5WE,5WE;BYMONTH=6,7", impl.Rule{Freq: 4, Every: 1, Days: []impl.By{{Num: -5, Day: 2}, {Num: 5, Day: 2}}, Months: []int{6, 7}}},
		{longest, impl.Rule{Freq: 3, Every: 100, Until: impl.DayMax, Days: []impl.By{{Num: -5, Day: 0}, {Num: -4, Day: 0}, {Num: -3, Day: 0}, {Num: -2, Day: 0}, {Num: -1, Day: 0}, {Num: -5, Day: 1}, {Num: -4, Day: 1}, {Num: -3, Day: 1}}, Dates: []int{-31, -30, -29, -28, -27, -26, -25, -24}, Months: []int{5, 6, 7, 8, 9, 10, 11, 12}, Places: []int{-366, -365, -364, -363, -362, -361, -360, -359}, Week: 6}},
	} {
		if got := impl.RulePut(c.rule); got != c.text {
			t.Errorf("%q is written %q", c.text, got)
		}
		if got, ok := impl.RuleGet(c.text); !ok || !sameRule(got, c.rule) {
			t.Errorf("%q: %+v %v", c.text, got, ok)
		}
	}
}

func checkRuleGet(t *testing.T, text string) {
	t.Helper()
	want, ok := slowRuleGet(text)
	got, is := impl.RuleGet(text)
	if is != ok || !sameRule(got, want) {
		t.Errorf("%q: %+v %v", text, got, is)
	} else if is && impl.RulePut(got) != text {
		t.Errorf("%q is written %q", text, impl.RulePut(got))
	}
}

// P12: texts that differ by a byte from what RulePut writes.
func TestRuleGetNear(t *testing.T) {
	for _, base := range []string{
		"FREQ=DAILY",
		"FREQ=WEEKLY;INTERVAL=2;COUNT=6;BYDAY=TU,SU;WKST=SU",
		"FREQ=MONTHLY;UNTIL=2026-01-20;BYDAY=-1FR,2FR;BYMONTHDAY=-1,31;BYSETPOS=-1,1",
		"FREQ=YEARLY;BYDAY=20MO,53MO;BYSETPOS=366",
		"FREQ=YEARLY;BYMONTHDAY=29;BYMONTH=2,10,12",
	} {
		for _, text := range nearTexts(base) {
			checkRuleGet(t, text)
		}
	}
}

// P12: parts in another order, twice, or empty.
func TestRuleGetParts(t *testing.T) {
	parts := []string{"FREQ=MONTHLY", "FREQ=YEARLY", "INTERVAL=2", "COUNT=3", "UNTIL=2026-01-20", "BYDAY=1MO", "BYMONTHDAY=1", "BYMONTH=2", "BYSETPOS=-1", "WKST=SU", ""}
	read := 0
	for _, a := range parts {
		checkRuleGet(t, a)
		for _, b := range parts {
			checkRuleGet(t, a+";"+b)
			for _, c := range parts {
				text := a + ";" + b + ";" + c
				checkRuleGet(t, text)
				if _, ok := impl.RuleGet(text); ok {
					read++
				}
			}
		}
	}
	// Of the 28 pairs behind FREQ one has both COUNT and UNTIL, and four have places with nothing to choose among; there are two Freqs.
	if want := 2 * (28 - 1 - 4); read != want {
		t.Errorf("%d texts of three parts are read, not %d", read, want)
	}
}

// P12: what is not just as RulePut writes it.
func TestRuleGetWrong(t *testing.T) {
	for _, text := range []string{
		"", ";", "=", ",", "FREQ", "FREQ=", "freq=DAILY", "FREQ=daily", "FREQ=HOURLY", "FREQ=SECONDLY", "FREQ=1", " FREQ=DAILY", "FREQ=DAILY ", "FREQ=DAILY;", ";FREQ=DAILY", "FREQ=DAILY\n", "FREQ=DAILY\x00", "FREQ==DAILY", "FREQ=DAILY=", "FREQ=DAILY,WEEKLY", "RRULE:FREQ=DAILY",
		"INTERVAL=2", "INTERVAL=2;FREQ=DAILY", "FREQ=DAILY;INTERVAL=0", "FREQ=DAILY;INTERVAL=1", "FREQ=DAILY;INTERVAL=101", "FREQ=DAILY;INTERVAL=-2", "FREQ=DAILY;INTERVAL=+2", "FREQ=DAILY;INTERVAL=02", "FREQ=DAILY;INTERVAL=", "FREQ=DAILY;INTERVAL=2.0", "FREQ=DAILY;INTERVAL=0x2", "FREQ=DAILY;INTERVAL=1_0", "FREQ=DAILY;INTERVAL=99999999999999999999", "FREQ=DAILY;INTERVAL=18446744073709551618",
		"FREQ=DAILY;COUNT=0", "FREQ=DAILY;COUNT=501", "FREQ=DAILY;COUNT=-1", "FREQ=DAILY;COUNT=007", "FREQ=DAILY;COUNT=2;COUNT=2", "FREQ=DAILY;COUNT=2;UNTIL=2026-01-01",
		"FREQ=DAILY;UNTIL=0001-01-01", "FREQ=DAILY;UNTIL=0000-12-31", "FREQ=DAILY;UNTIL=10000-01-01", "FREQ=DAILY;UNTIL=2026-02-29", "FREQ=DAILY;UNTIL=20260101", "FREQ=DAILY;UNTIL=2026-01-01T00:00", "FREQ=DAILY;UNTIL=5", "FREQ=DAILY;UNTIL=",
		"FREQ=WEEKLY;BYDAY=", "FREQ=WEEKLY;BYDAY=1MO", "FREQ=DAILY;BYDAY=1MO", "FREQ=WEEKLY;BYDAY=0MO", "FREQ=WEEKLY;BYDAY=mo", "FREQ=WEEKLY;BYDAY=M", "FREQ=WEEKLY;BYDAY=XX", "FREQ=WEEKLY;BYDAY=MO,MO", "FREQ=WEEKLY;BYDAY=TU,MO", "FREQ=WEEKLY;BYDAY=MO,", "FREQ=WEEKLY;BYDAY=,MO", "FREQ=WEEKLY;BYDAY=MO,,TU", "FREQ=WEEKLY;BYDAY=MO TU", "FREQ=WEEKLY;BYDAY=MOTU", "FREQ=WEEKLY;BYDAY=MO, TU",
		"FREQ=MONTHLY;BYDAY=6MO", "FREQ=MONTHLY;BYDAY=-6MO", "FREQ=MONTHLY;BYDAY=+1MO", "FREQ=MONTHLY;BYDAY=01MO", "FREQ=MONTHLY;BYDAY=-0MO", "FREQ=MONTHLY;BYDAY=0MO", "FREQ=MONTHLY;BYDAY=1MO,-1MO", "FREQ=MONTHLY;BYDAY=-MO", "FREQ=MONTHLY;BYDAY=1", "FREQ=MONTHLY;BYDAY=1 MO", "FREQ=YEARLY;BYDAY=54MO", "FREQ=YEARLY;BYDAY=-54MO", "FREQ=YEARLY;BYDAY=6MO;BYMONTH=1",
		"FREQ=WEEKLY;BYMONTHDAY=1", "FREQ=MONTHLY;BYMONTHDAY=0", "FREQ=MONTHLY;BYMONTHDAY=32", "FREQ=MONTHLY;BYMONTHDAY=-32", "FREQ=MONTHLY;BYMONTHDAY=2,1", "FREQ=MONTHLY;BYMONTHDAY=1,1", "FREQ=MONTHLY;BYMONTHDAY=1,-1", "FREQ=MONTHLY;BYMONTHDAY=", "FREQ=MONTHLY;BYMONTHDAY=1,2,3,4,5,6,7,8,9",
		"FREQ=MONTHLY;BYMONTH=0", "FREQ=MONTHLY;BYMONTH=13", "FREQ=MONTHLY;BYMONTH=-1", "FREQ=MONTHLY;BYMONTH=2,1", "FREQ=MONTHLY;BYMONTH=1,2,3,4,5,6,7,8,9", "FREQ=MONTHLY;BYMONTH=1;BYMONTHDAY=1",
		"FREQ=DAILY;BYSETPOS=1", "FREQ=MONTHLY;BYMONTH=1;BYSETPOS=0", "FREQ=MONTHLY;BYMONTH=1;BYSETPOS=367", "FREQ=MONTHLY;BYMONTH=1;BYSETPOS=-367", "FREQ=MONTHLY;BYMONTH=1;BYSETPOS=1,1", "FREQ=MONTHLY;BYMONTH=1;BYSETPOS=1,-1",
		"FREQ=DAILY;WKST=MO", "FREQ=DAILY;WKST=", "FREQ=DAILY;WKST=su", "FREQ=DAILY;WKST=6", "FREQ=DAILY;WKST=SU;WKST=SU", "FREQ=DAILY;BYHOUR=1", "FREQ=DAILY;BYWEEKNO=1", "FREQ=DAILY;X=1",
	} {
		if got, ok := impl.RuleGet(text); ok || !sameRule(got, impl.Rule{}) {
			t.Errorf("%q: %+v %v", text, got, ok)
		}
		checkRuleGet(t, text)
	}
	for _, size := range []int{299, 300, 301, 302, 100000} {
		for _, start := range []string{"FREQ=DAILY", "FREQ=DAILY;", "FREQ=MONTHLY;BYMONTHDAY=1", "FREQ=YEARLY;BYDAY=1MO,", ""} {
			for _, fill := range []string{" ", ";", ",", "0", "1", "A", ",1", ",2MO", "\xff", "FREQ=DAILY;"} {
				text := (start + strings.Repeat(fill, size))[:size]
				if got, ok := impl.RuleGet(text); ok || !sameRule(got, impl.Rule{}) {
					t.Errorf("%d bytes %q: %+v", size, text[:40], got)
				}
			}
		}
	}
}

// P13, P14, P18: rules of all sorts come just on the days that they come on done the long way.
func TestRulesOfAllSorts(t *testing.T) {
	someRules(13, 2500, func(rng *rand.Rand, r impl.Rule, start int) {
		switch rng.Intn(4) {
		case 0:
			r.Count = 1 + rng.Intn([]int{3, 20, 500}[rng.Intn(3)])
		case 1:
			r.Until = min(impl.DayMax, start+rng.Intn(4000))
		}
		checkRule(t, rng, r, start, 100+rng.Intn(3000))
	})
}

// The same as far as a rule may be asked, where counts and hits are full.
func TestRulesFarAhead(t *testing.T) {
	someRules(14, 120, func(rng *rand.Rand, r impl.Rule, start int) {
		start = min(start, impl.DayMax-12000)
		if rng.Intn(2) == 0 {
			r.Count = []int{199, 200, 201, 499, 500}[rng.Intn(5)]
		}
		checkRule(t, rng, r, start, sight)
	})
}

// checkRule asks for a rule's days up to some, on all of some, and the next of some.
func checkRule(t *testing.T, rng *rand.Rand, r impl.Rule, start int, size int) {
	t.Helper()
	last := min(start+size+nextSize, impl.DayMax)
	all := slowComes(r, start, last)
	for range 6 {
		to := min(start-10+rng.Intn(size+11), start+sight, impl.DayMax)
		if to < 0 {
			continue
		}
		if got := impl.RuleDays(r, start, to); !slices.Equal(got, upTo(all, to)) {
			t.Fatalf("%s to %d: %v, not %v", ruleAt(r, start), to, got, upTo(all, to))
		}
	}
	from := max(0, start-380)
	for range 100 {
		day := min(from+rng.Intn(start+size-from+1), impl.DayMax)
		if got := impl.RuleOn(r, start, day); got != slices.Contains(all, day) {
			t.Fatalf("%s on %d: %v", ruleAt(r, start), day, got)
		}
		if got := impl.RuleNext(r, start, day); got != slowNext(all, start, day) {
			t.Fatalf("%s next of %d: %d, not %d", ruleAt(r, start), day, got, slowNext(all, start, day))
		}
	}
}

// Rules by their dates, each Freq and each part of a rule.
func TestRuleExamples(t *testing.T) {
	for _, c := range []struct{ rule, start, days string }{
		{"FREQ=DAILY;COUNT=3", "1997-09-02", "1997-09-02 1997-09-03 1997-09-04"},
		{"FREQ=DAILY;INTERVAL=100;COUNT=3", "2023-12-31", "2023-12-31 2024-04-09 2024-07-18"},
		{"FREQ=DAILY;COUNT=4;BYDAY=SA,SU", "2026-01-05", "2026-01-10 2026-01-11 2026-01-17 2026-01-18"},
		{"FREQ=DAILY;COUNT=4;BYMONTHDAY=-1,1", "2024-02-02", "2024-02-29 2024-03-01 2024-03-31 2024-04-01"},
		{"FREQ=DAILY;COUNT=3;BYMONTH=2;BYSETPOS=1", "2026-02-27", "2026-02-27 2026-02-28 2027-02-01"},
		{"FREQ=DAILY;COUNT=3;BYMONTH=2;BYSETPOS=2", "2026-02-27", ""},
		{"FREQ=WEEKLY;UNTIL=1997-09-23", "1997-09-02", "1997-09-02 1997-09-09 1997-09-16 1997-09-23"},
		{"FREQ=WEEKLY;UNTIL=1997-09-22", "1997-09-02", "1997-09-02 1997-09-09 1997-09-16"},
		{"FREQ=WEEKLY;UNTIL=1997-09-01", "1997-09-02", ""},
		{"FREQ=WEEKLY;INTERVAL=2;COUNT=4;BYDAY=TU,SU", "1997-08-05", "1997-08-05 1997-08-10 1997-08-19 1997-08-24"},
		{"FREQ=WEEKLY;INTERVAL=2;COUNT=4;BYDAY=TU,SU;WKST=SU", "1997-08-05", "1997-08-05 1997-08-17 1997-08-19 1997-08-31"},
		{"FREQ=WEEKLY;COUNT=4;BYDAY=MO,WE,FR;BYSETPOS=-1", "2026-01-03", "2026-01-09 2026-01-16 2026-01-23 2026-01-30"},
		{"FREQ=WEEKLY;COUNT=3;BYDAY=MO,FR;BYSETPOS=2", "2026-01-08", "2026-01-09 2026-01-16 2026-01-23"},
		{"FREQ=WEEKLY;COUNT=3;BYMONTH=2", "2026-01-08", "2026-02-05 2026-02-12 2026-02-19"},
		{"FREQ=MONTHLY;COUNT=3;BYDAY=1FR", "1997-09-05", "1997-09-05 1997-10-03 1997-11-07"},
		{"FREQ=MONTHLY;INTERVAL=2;COUNT=4;BYDAY=-1SU,1SU", "1997-09-07", "1997-09-07 1997-09-28 1997-11-02 1997-11-30"},
		{"FREQ=MONTHLY;COUNT=3;BYDAY=-2MO", "1997-09-22", "1997-09-22 1997-10-20 1997-11-17"},
		{"FREQ=MONTHLY;COUNT=4;BYMONTHDAY=-3", "1997-09-28", "1997-09-28 1997-10-29 1997-11-28 1997-12-29"},
		{"FREQ=MONTHLY;COUNT=3;BYDAY=FR;BYMONTHDAY=13", "1997-09-02", "1998-02-13 1998-03-13 1998-11-13"},
		{"FREQ=MONTHLY;COUNT=3;BYDAY=TU,WE,TH;BYSETPOS=3", "1997-09-04", "1997-09-04 1997-10-07 1997-11-06"},
		{"FREQ=MONTHLY;COUNT=3;BYDAY=MO,TU,WE,TH,FR;BYSETPOS=-2", "1997-09-29", "1997-09-29 1997-10-30 1997-11-27"},
		{"FREQ=MONTHLY;COUNT=3;BYMONTHDAY=10,20;BYSETPOS=1", "2026-01-15", "2026-02-10 2026-03-10 2026-04-10"},
		{"FREQ=MONTHLY;COUNT=3;BYMONTHDAY=10,20;BYSETPOS=2", "2026-01-15", "2026-01-20 2026-02-20 2026-03-20"},
		{"FREQ=MONTHLY;COUNT=3;BYDAY=5MO", "2026-01-01", "2026-03-30 2026-06-29 2026-08-31"},
		{"FREQ=MONTHLY;COUNT=3;BYDAY=-5MO", "2026-01-01", "2026-03-02 2026-06-01 2026-08-03"},
		{"FREQ=MONTHLY;COUNT=3;BYDAY=-1MO", "2026-01-27", "2026-02-23 2026-03-30 2026-04-27"},
		{"FREQ=MONTHLY;COUNT=3;BYMONTH=2,12", "2026-01-30", "2026-12-30 2027-12-30 2028-12-30"},
		{"FREQ=YEARLY;COUNT=3;BYMONTH=6,7", "1997-06-10", "1997-06-10 1997-07-10 1998-06-10"},
		{"FREQ=YEARLY;COUNT=3;BYDAY=TH;BYMONTH=3", "1997-03-13", "1997-03-13 1997-03-20 1997-03-27"},
		{"FREQ=YEARLY;COUNT=3;BYDAY=20MO", "1997-05-19", "1997-05-19 1998-05-18 1999-05-17"},
		{"FREQ=YEARLY;COUNT=3;BYDAY=-1MO", "2026-01-01", "2026-12-28 2027-12-27 2028-12-25"},
		{"FREQ=YEARLY;COUNT=3;BYDAY=53TH", "2020-01-01", "2020-12-31 2026-12-31 2032-12-30"},
		{"FREQ=YEARLY;COUNT=3;BYDAY=-53TH", "2020-01-01", "2020-01-02 2026-01-01 2032-01-01"},
		{"FREQ=YEARLY;COUNT=3;BYDAY=1MO,-1MO;BYMONTH=2", "2026-01-01", ""},
		{"FREQ=YEARLY;COUNT=3;BYDAY=-1MO,1MO;BYMONTH=2", "2026-01-01", "2026-02-02 2026-02-23 2027-02-01"},
		{"FREQ=YEARLY;COUNT=3;BYMONTHDAY=31", "2026-04-01", "2026-05-31 2026-07-31 2026-08-31"},
		{"FREQ=YEARLY;COUNT=3", "2024-02-29", "2024-02-29 2028-02-29 2032-02-29"},
		{"FREQ=YEARLY;INTERVAL=3;COUNT=3", "2024-02-29", "2024-02-29 2036-02-29 2048-02-29"},
		{"FREQ=YEARLY;COUNT=2;BYDAY=SU;BYSETPOS=-1", "2026-12-28", "2027-12-26 2028-12-31"},
		{"FREQ=YEARLY;COUNT=3;BYDAY=MO,TU,WE,TH,FR,SA,SU;BYSETPOS=366", "2026-01-01", "2028-12-31 2032-12-31 2036-12-31"},
		{"FREQ=YEARLY;COUNT=3;BYDAY=MO,TU,WE,TH,FR,SA,SU;BYSETPOS=-366", "2026-01-01", "2028-01-01 2032-01-01 2036-01-01"},
		{"FREQ=YEARLY;COUNT=2;BYDAY=MO,TU,WE,TH,FR,SA,SU;BYSETPOS=100", "2026-04-11", "2027-04-10 2028-04-09"},
	} {
		r, ok := impl.RuleGet(c.rule)
		if strings.Contains(c.rule, "1MO,-1MO") == ok {
			t.Errorf("%s: %v", c.rule, ok)
		}
		var texts []string
		start := mustDay(t, c.start)
		for _, day := range impl.RuleDays(r, start, start+sight) {
			texts = append(texts, impl.DateText(impl.DateOf(day)))
		}
		if got := strings.Join(texts, " "); got != c.days {
			t.Errorf("%s from %s: %s", c.rule, c.start, got)
		}
	}
}

// P13
func TestRuleDaysInOrder(t *testing.T) {
	someRules(15, 400, func(rng *rand.Rand, r impl.Rule, start int) {
		switch rng.Intn(3) {
		case 0:
			r.Count = 1 + rng.Intn(30)
		case 1:
			r.Until = min(start+rng.Intn(2000), impl.DayMax)
		}
		to := min(start+2500, impl.DayMax)
		days := impl.RuleDays(r, start, to)
		if len(days) > 200 || r.Count > 0 && len(days) > r.Count {
			t.Fatalf("%s: %d", ruleAt(r, start), len(days))
		}
		for i, day := range days {
			if day < start || day > to || r.Until > 0 && day > r.Until || i > 0 && day <= days[i-1] {
				t.Fatalf("%s: %v", ruleAt(r, start), days)
			}
		}
		for range 10 {
			earlier := start + rng.Intn(to-start+1)
			if got := impl.RuleDays(r, start, earlier); !slices.Equal(got, upTo(days, earlier)) && len(days) < 200 {
				t.Fatalf("%s to %d: %v of %v", ruleAt(r, start), earlier, got, days)
			}
		}
	})
}

// P13: just HitMax days, and one more; of all counts.
func TestRuleDaysFull(t *testing.T) {
	daily := impl.Rule{Freq: impl.FreqDay, Every: 1}
	for _, start := range []int{0, 5, 739000, impl.DayMax - 900} {
		for size := 195; size <= 205; size++ {
			if got := impl.RuleDays(daily, start, start+size-1); len(got) != min(size, 200) || got[0] != start || got[len(got)-1] != start+min(size, 200)-1 {
				t.Fatalf("%d days from %d: %d", size, start, len(got))
			}
		}
		for _, count := range []int{1, 2, 199, 200, 201, 499, 500} {
			r := daily
			r.Count = count
			if got := impl.RuleDays(r, start, start+800); len(got) != min(count, 200) {
				t.Errorf("count %d: %d", count, len(got))
			}
			if !impl.RuleOn(r, start, start+count-1) || impl.RuleOn(r, start, start+count) {
				t.Errorf("count %d: on", count)
			}
			if impl.RuleNext(r, start, start+count-1) != start+count-1 || impl.RuleNext(r, start, start+count) != -1 {
				t.Errorf("count %d: next", count)
			}
		}
	}
}

// P14: on just the days that are told; such a day is of Months, Dates and Days.
func TestRuleOn(t *testing.T) {
	someRules(16, 300, func(rng *rand.Rand, r impl.Rule, start int) {
		to := min(start+900, impl.DayMax)
		days := impl.RuleDays(r, start, to)
		if len(days) == 200 {
			to = days[199]
		}
		for day := max(0, start-40); day <= to; day++ {
			on := impl.RuleOn(r, start, day)
			if on != slices.Contains(days, day) {
				t.Fatalf("%s on %d: %v", ruleAt(r, start), day, on)
			}
			d := impl.DateOf(day)
			fromEnd := d.Day - impl.MonthDays(d.Year, d.Month) - 1
			if on && len(r.Months) > 0 && !slices.Contains(r.Months, d.Month) {
				t.Fatalf("%s on %d", ruleAt(r, start), day)
			}
			if on && len(r.Dates) > 0 && !slices.Contains(r.Dates, d.Day) && !slices.Contains(r.Dates, fromEnd) {
				t.Fatalf("%s on %d", ruleAt(r, start), day)
			}
			if on && len(r.Days) > 0 && !slices.ContainsFunc(r.Days, func(b impl.By) bool { return b.Day == impl.WeekDay(day) }) {
				t.Fatalf("%s on %d", ruleAt(r, start), day)
			}
		}
	})
}

// P15
func TestEachSoManyDays(t *testing.T) {
	for _, start := range []int{0, 1, 6, 739935, impl.DayMax - 11000, impl.DayMax - 3000, impl.DayMax - 1, impl.DayMax} {
		to := min(start+sight, impl.DayMax)
		for every := 1; every <= 100; every++ {
			for week := range 7 {
				for freq, step := range map[int]int{impl.FreqDay: every, impl.FreqWeek: 7 * every} {
					var want []int
					for day := start; day <= to && len(want) < 200; day += step {
						want = append(want, day)
					}
					r := impl.Rule{Freq: freq, Every: every, Week: week}
					if got := impl.RuleDays(r, start, to); !slices.Equal(got, want) {
						t.Fatalf("%s: %v", ruleAt(r, start), got)
					}
				}
			}
		}
	}
}

// P16: each month and each year, on days that not all of them have.
func TestEachMonthAndYear(t *testing.T) {
	for _, text := range []string{"0001-01-31", "1896-02-29", "2023-12-31", "2024-01-29", "2024-01-30", "2024-02-29", "2026-11-17", "9990-08-31", "9996-02-29", "9999-12-31"} {
		start := mustDay(t, text)
		first := impl.DateOf(start)
		to := min(start+sight, impl.DayMax)
		for _, every := range []int{1, 2, 3, 4, 5, 7, 12, 13, 24, 99, 100} {
			var months, years []int
			for day := start; day <= to; day++ {
				d := goDate(day)
				apart := (d.Year-first.Year)*12 + d.Month - first.Month
				if d.Day == first.Day && apart%every == 0 {
					months = append(months, day)
				}
				if d.Day == first.Day && d.Month == first.Month && (d.Year-first.Year)%every == 0 {
					years = append(years, day)
				}
			}
			if got := impl.RuleDays(impl.Rule{Freq: impl.FreqMonth, Every: every}, start, to); !slices.Equal(got, upTo(months, to)) {
				t.Errorf("%s each %d months: %v", text, every, got)
			}
			if got := impl.RuleDays(impl.Rule{Freq: impl.FreqYear, Every: every}, start, to); !slices.Equal(got, upTo(years, to)) {
				t.Errorf("%s each %d years: %v", text, every, got)
			}
		}
	}
}

// P17
func TestPlacesChoose(t *testing.T) {
	some := 0
	someRules(17, 1500, func(rng *rand.Rand, r impl.Rule, start int) {
		if len(r.Places) == 0 {
			return
		}
		to := min(start+1200, impl.DayMax)
		without := copyRule(r)
		without.Places = nil
		for _, day := range impl.RuleDays(r, start, to) {
			some++
			if !impl.RuleOn(without, start, day) {
				t.Fatalf("%s on %d", ruleAt(r, start), day)
			}
		}
	})
	if some < 500 {
		t.Errorf("only %d days", some)
	}
}

// P17: places are among all days of the first period, those ahead of start too.
func TestPlacesAheadOfStart(t *testing.T) {
	weekdays := []impl.By{{Day: 0}, {Day: 1}, {Day: 2}, {Day: 3}, {Day: 4}}
	for start := mustDay(t, "2026-01-01"); start <= mustDay(t, "2026-03-31"); start++ {
		date := impl.DateOf(start)
		size := impl.MonthDays(date.Year, date.Month)
		first := start - date.Day + 1
		for place := 1; place <= 31; place++ {
			r := impl.Rule{Freq: impl.FreqMonth, Every: 1, Months: []int{1, 2, 3}, Days: []impl.By{{Day: 0}, {Day: 1}, {Day: 2}, {Day: 3}, {Day: 4}, {Day: 5}, {Day: 6}}, Places: []int{place}}
			if on := impl.RuleOn(r, start, start); on != (date.Day == place) {
				t.Fatalf("%s: %v", ruleAt(r, start), on)
			}
			r.Places = []int{-place}
			if on := impl.RuleOn(r, start, start); on != (size-date.Day+1 == place) {
				t.Fatalf("%s: %v", ruleAt(r, start), on)
			}
		}
		for week := range 7 {
			r := impl.Rule{Freq: impl.FreqWeek, Every: 1, Days: weekdays, Places: []int{1}, Week: week}
			ahead := 0
			for day := start - 1; day >= start-6 && (impl.WeekDay(day)+7-week)%7 < (impl.WeekDay(start)+7-week)%7; day-- {
				if impl.WeekDay(day) < 5 {
					ahead++
				}
			}
			if on := impl.RuleOn(r, start, start); on != (ahead == 0 && impl.WeekDay(start) < 5) {
				t.Fatalf("%s: %v", ruleAt(r, start), on)
			}
		}
		year := impl.Rule{Freq: impl.FreqYear, Every: 1, Dates: []int{1}, Places: []int{date.Month}}
		if on := impl.RuleOn(year, start, start); on != (date.Day == 1) {
			t.Fatalf("%s: %v", ruleAt(year, start), on)
		}
		if on := impl.RuleOn(year, start, first); on != (first >= start) {
			t.Fatalf("%s on the first: %v", ruleAt(year, start), on)
		}
	}
}

// P18
func TestRuleNext(t *testing.T) {
	someRules(18, 300, func(rng *rand.Rand, r impl.Rule, start int) {
		if rng.Intn(3) == 0 {
			r.Count = 1 + rng.Intn(20)
		}
		for range 10 {
			day := min(max(0, start-400)+rng.Intn(2500), impl.DayMax)
			next := impl.RuleNext(r, start, day)
			if next != -1 && (next < day || next > day+366 || !impl.RuleOn(r, start, next)) {
				t.Fatalf("%s next of %d: %d", ruleAt(r, start), day, next)
			}
			for between := day; between < min(day+60, impl.DayMax) && between != next; between++ {
				if impl.RuleOn(r, start, between) {
					t.Fatalf("%s next of %d: %d, not %d", ruleAt(r, start), day, next, between)
				}
			}
		}
	})
}

// P18: just 366 days later, and one more; just 11000 behind start, and one more.
func TestRuleNextEdges(t *testing.T) {
	leap := mustDay(t, "2024-02-29")
	yearly := impl.Rule{Freq: impl.FreqYear, Every: 1}
	next := mustDay(t, "2028-02-29")
	for _, c := range []struct{ day, want int }{
		{leap - 367, -1}, {leap - 366, leap}, {leap - 365, leap}, {leap, leap}, {leap + 1, -1},
		{next - 367, -1}, {next - 366, next}, {next - 1, next}, {next, next}, {next + 1, -1},
	} {
		if got := impl.RuleNext(yearly, leap, c.day); got != c.want {
			t.Errorf("day %d: %d, not %d", c.day, got, c.want)
		}
	}
	start := mustDay(t, "2000-01-01")
	far := impl.Rule{Freq: impl.FreqDay, Every: 100}
	for _, c := range []struct{ day, want int }{
		{start + 10900, start + 10900}, {start + 10901, start + 11000}, {start + 10999, start + 11000}, {start + 11000, start + 11000}, {start + 11001, -1},
	} {
		if got := impl.RuleNext(far, start, c.day); got != c.want {
			t.Errorf("day %d: %d, not %d", c.day, got, c.want)
		}
	}
	far.Every = 99
	if got := impl.RuleNext(far, start, start+10990); got != -1 {
		t.Errorf("11088 behind start: %d", got)
	}
	if got := impl.RuleNext(far, start, start+10989); got != start+10989 {
		t.Errorf("10989 behind start: %d", got)
	}
	daily := impl.Rule{Freq: impl.FreqDay, Every: 1}
	if got := impl.RuleNext(daily, impl.DayMax, impl.DayMax-366); got != impl.DayMax {
		t.Errorf("the last day: %d", got)
	}
	if got := impl.RuleNext(daily, impl.DayMax, impl.DayMax-367); got != -1 {
		t.Errorf("a day too early: %d", got)
	}
}

// How far behind start a rule may be asked, days 0 and DayMax, and what is no day.
func TestRuleMayBeAsked(t *testing.T) {
	daily := impl.Rule{Freq: impl.FreqDay, Every: 1}
	bad := impl.Rule{Freq: impl.FreqDay}
	days := append([]int{2, 10999, 11000, 11001, 11002, impl.DayMax - 11001, impl.DayMax - 11000, impl.DayMax - 10999, impl.DayMax - 2}, wildInts...)
	for _, start := range days {
		for _, day := range days {
			may := isDay(start) && isDay(day) && day <= start+11000
			size, next := 0, -1
			if may {
				size = max(0, min(day-start+1, 200))
				if max(start, day) <= day+366 {
					next = max(start, day)
				}
			}
			on := may && day >= start
			if got := impl.RuleDays(daily, start, day); len(got) != size || size > 0 && got[0] != start {
				t.Errorf("days of %d to %d: %d", start, day, len(got))
			}
			if impl.RuleOn(daily, start, day) != on || impl.RuleNext(daily, start, day) != next {
				t.Errorf("start %d on %d: %v %d", start, day, !on, impl.RuleNext(daily, start, day))
			}
			if len(impl.RuleDays(bad, start, day)) != 0 || impl.RuleOn(bad, start, day) || impl.RuleNext(bad, start, day) != -1 {
				t.Errorf("a rule that is not ok, start %d on %d", start, day)
			}
		}
	}
}

// Periods at both ends of all days: what is no day is not chosen, and takes no place.
func TestRuleAtEnds(t *testing.T) {
	all := []impl.By{{Day: 0}, {Day: 1}, {Day: 2}, {Day: 3}, {Day: 4}, {Day: 5}, {Day: 6}}
	for week := range 7 {
		first := impl.Rule{Freq: impl.FreqWeek, Every: 1, Days: all, Places: []int{1}, Week: week}
		want := []int{0}
		for day := 1; day <= 20; day++ {
			if day%7 == week {
				want = append(want, day)
			}
		}
		if got := impl.RuleDays(first, 0, 20); !slices.Equal(got, want) {
			t.Errorf("weeks from %d: %v", week, got)
		}
		last := impl.Rule{Freq: impl.FreqWeek, Every: 1, Days: all, Places: []int{-1}, Week: week}
		want = nil
		for day := impl.DayMax - 20; day <= impl.DayMax; day++ {
			if day == impl.DayMax || (day+1)%7 == week {
				want = append(want, day)
			}
		}
		if got := impl.RuleDays(last, impl.DayMax-20, impl.DayMax); !slices.Equal(got, want) {
			t.Errorf("weeks from %d: %v", week, got)
		}
	}
	for freq := 1; freq <= 4; freq++ {
		for _, every := range []int{1, 2, 100} {
			r := impl.Rule{Freq: freq, Every: every}
			for _, day := range []int{0, impl.DayMax} {
				if got := impl.RuleDays(r, day, day); !slices.Equal(got, []int{day}) || !impl.RuleOn(r, day, day) || impl.RuleNext(r, day, day) != day {
					t.Errorf("%s: %v", ruleAt(r, day), got)
				}
			}
		}
	}
}

// P44
func TestCountIsTheFirst(t *testing.T) {
	someRules(44, 500, func(rng *rand.Rand, r impl.Rule, start int) {
		to := min(start+1500, impl.DayMax)
		days := impl.RuleDays(r, start, to)
		for _, count := range []int{1, 2, 3, 7, 40, 199, 200, 201, 500} {
			r.Count = count
			if got := impl.RuleDays(r, start, to); !slices.Equal(got, days[:min(count, len(days))]) {
				t.Fatalf("%s: %v of %v", ruleAt(r, start), got, days)
			}
		}
	})
}

// P45
func TestUntilIsUpTo(t *testing.T) {
	someRules(45, 500, func(rng *rand.Rand, r impl.Rule, start int) {
		to := min(start+1500, impl.DayMax)
		for range 8 {
			until := min(max(1, start-20)+rng.Intn(1600), impl.DayMax)
			want := impl.RuleDays(r, start, min(until, to))
			with := r
			with.Until = until
			if got := impl.RuleDays(with, start, to); !slices.Equal(got, want) {
				t.Fatalf("%s: %v, not %v", ruleAt(with, start), got, want)
			}
			if impl.RuleOn(with, start, until) != impl.RuleOn(r, start, until) || until < to && impl.RuleOn(with, start, until+1) {
				t.Fatalf("%s: on", ruleAt(with, start))
			}
		}
	})
}

// P45: until the first days and the last; 0 is no end.
func TestUntilEdges(t *testing.T) {
	for freq := impl.FreqDay; freq <= impl.FreqWeek; freq++ {
		all := []impl.By{{Day: 0}, {Day: 1}, {Day: 2}, {Day: 3}, {Day: 4}, {Day: 5}, {Day: 6}}
		for until := range 12 {
			r := impl.Rule{Freq: freq, Every: 1, Until: until, Days: all}
			want := []int{0, 1, 2, 3, 4, 5, 6, 7, 8, 9, 10, 11}
			if until > 0 {
				want = want[:until+1]
			}
			if got := impl.RuleDays(r, 0, 11); !slices.Equal(got, want) {
				t.Errorf("%s: %v", ruleAt(r, 0), got)
			}
		}
		for back := range 3 {
			r := impl.Rule{Freq: freq, Every: 1, Until: impl.DayMax - back, Days: all}
			if got := impl.RuleDays(r, impl.DayMax-5, impl.DayMax); len(got) != 6-back {
				t.Errorf("%s: %v", ruleAt(r, impl.DayMax-5), got)
			}
		}
	}
}

// P46
func TestFromOneOfItsDays(t *testing.T) {
	someRules(46, 500, func(rng *rand.Rand, r impl.Rule, start int) {
		if rng.Intn(3) == 0 {
			r.Until = min(start+rng.Intn(1500), impl.DayMax)
		}
		to := min(start+1500, impl.DayMax)
		days := impl.RuleDays(r, start, to)
		for i, day := range days {
			if i%7 != 0 && i != len(days)-1 {
				continue
			}
			got := impl.RuleDays(r, day, to)
			n := min(len(got), len(days)-i)
			if !slices.Equal(got[:n], days[i:i+n]) || len(days) < 200 && len(got) != n {
				t.Fatalf("%s, from %d on: %v, not %v", ruleAt(r, start), day, got, days[i:])
			}
		}
	})
}

// P47, and that with Every above 1 each Week is another rule for one who comes at both ends of it.
func TestWeekBegins(t *testing.T) {
	someRules(47, 800, func(rng *rand.Rand, r impl.Rule, start int) {
		if r.Freq != impl.FreqWeek {
			return
		}
		r.Every, r.Places = 1, nil
		to := min(start+1500, impl.DayMax)
		days := impl.RuleDays(r, start, to)
		for r.Week = range 7 {
			if got := impl.RuleDays(r, start, to); !slices.Equal(got, days) {
				t.Fatalf("%s: %v, not %v", ruleAt(r, start), got, days)
			}
		}
	})
	all := []impl.By{{Day: 0}, {Day: 1}, {Day: 2}, {Day: 3}, {Day: 4}, {Day: 5}, {Day: 6}}
	for every := 2; every <= 100; every++ {
		for start := 739935; start < 739935+7; start++ {
			for week := range 7 {
				r := impl.Rule{Freq: impl.FreqWeek, Every: every, Days: all, Week: week}
				first := start
				for first%7 != week {
					first--
				}
				var want []int
				for day := start; day < start+7*every+7; day++ {
					if (day-first)/7%every == 0 {
						want = append(want, day)
					}
				}
				if got := impl.RuleDays(r, start, start+7*every+6); !slices.Equal(got, want) {
					t.Fatalf("%s: %v, not %v", ruleAt(r, start), got, want)
				}
			}
		}
	}
}

// P48
func TestDaysTogether(t *testing.T) {
	some := 0
	someRules(48, 1500, func(rng *rand.Rand, r impl.Rule, start int) {
		if len(r.Days) < 2 {
			return
		}
		r.Places = nil
		to := min(start+600, impl.DayMax)
		var want []int
		for _, b := range r.Days {
			one := copyRule(r)
			one.Days = []impl.By{b}
			want = append(want, impl.RuleDays(one, start, to)...)
		}
		slices.Sort(want)
		want = slices.Compact(want)
		got := impl.RuleDays(r, start, to)
		if len(want) >= 200 {
			want = want[:200]
		}
		if !slices.Equal(got, want) {
			t.Fatalf("%s: %v, not %v", ruleAt(r, start), got, want)
		}
		some += len(want)
	})
	if some < 500 {
		t.Errorf("only %d days", some)
	}
}

// P49
func TestMonthsLeaveOut(t *testing.T) {
	for _, start := range []int{0, 59, 739935, impl.DayMax - 700} {
		for freq := impl.FreqDay; freq <= impl.FreqWeek; freq++ {
			for _, every := range []int{1, 3, 10} {
				for _, days := range [][]impl.By{nil, {{Day: 0}, {Day: 6}}} {
					r := impl.Rule{Freq: freq, Every: every, Days: days}
					for _, months := range [][]int{{1}, {2}, {12}, {3, 4}, {1, 2, 3, 4, 5, 6, 7, 8}} {
						with := r
						with.Months = months
						for day := max(0, start-3); day <= start+700; day++ {
							want := impl.RuleOn(r, start, day) && slices.Contains(months, impl.DateOf(day).Month)
							if impl.RuleOn(with, start, day) != want {
								t.Fatalf("%s on %d: %v", ruleAt(with, start), day, !want)
							}
						}
					}
				}
			}
		}
	}
}

// P50
func TestLastOfMonths(t *testing.T) {
	all := []impl.By{{Day: 0}, {Day: 1}, {Day: 2}, {Day: 3}, {Day: 4}, {Day: 5}, {Day: 6}}
	byDate := impl.Rule{Freq: impl.FreqMonth, Every: 1, Dates: []int{-1}}
	byPlace := impl.Rule{Freq: impl.FreqMonth, Every: 1, Days: all, Places: []int{-1}}
	for _, text := range []string{"0001-01-01", "1899-12-31", "2024-02-28", "2024-02-29", "2026-11-17", "9970-01-01", "9999-12-31"} {
		start := mustDay(t, text)
		to := min(start+6000, impl.DayMax)
		var want []int
		for day := start; day <= to && len(want) < 200; day++ {
			if day == impl.DayMax || goDate(day+1).Day == 1 {
				want = append(want, day)
			}
		}
		for _, r := range []impl.Rule{byDate, byPlace} {
			if got := impl.RuleDays(r, start, to); !slices.Equal(got, want) {
				t.Errorf("%s: %v, not %v", ruleAt(r, start), got, want)
			}
		}
	}
}

// P51: the N-th of a day of the week, from both ends; the fifth only where there is one.
func TestNumInMonth(t *testing.T) {
	for num := 1; num <= 5; num++ {
		for weekDay := range 7 {
			for _, start := range []int{0, mustDay(t, "2026-01-01"), mustDay(t, "9990-01-01")} {
				to := start + 3000
				fromStart := impl.Rule{Freq: impl.FreqMonth, Every: 1, Days: []impl.By{{Num: num, Day: weekDay}}}
				fromEnd := impl.Rule{Freq: impl.FreqMonth, Every: 1, Days: []impl.By{{Num: -num, Day: weekDay}}}
				var want, wantEnd []int
				for day := start; day <= to; day++ {
					d := goDate(day)
					left := goMonthDays(d.Year, d.Month) - d.Day
					if impl.WeekDay(day) == weekDay && d.Day >= 7*num-6 && d.Day <= 7*num {
						want = append(want, day)
					}
					if impl.WeekDay(day) == weekDay && left >= 7*num-7 && left < 7*num {
						wantEnd = append(wantEnd, day)
					}
				}
				if got := impl.RuleDays(fromStart, start, to); !slices.Equal(got, upTo(want, to)) {
					t.Errorf("%s: %v", ruleAt(fromStart, start), got)
				}
				if got := impl.RuleDays(fromEnd, start, to); !slices.Equal(got, upTo(wantEnd, to)) {
					t.Errorf("%s: %v", ruleAt(fromEnd, start), got)
				}
			}
		}
	}
}
