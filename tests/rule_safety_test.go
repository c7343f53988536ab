package tests

import (
	"math"
	"math/rand"
	"slices"
	"strings"
	"testing"

	"loop.example/ephemeris/impl"
)

// wildRules are rules of all sorts, most of them not ok.
func wildRules() []impl.Rule {
	list := []impl.Rule{{}}
	wild := append([]int{-366, -53, -31, -5, 4, 5, 6, 7, 53, 100, 366, 500}, wildInts...)
	for freq := -1; freq <= 6; freq++ {
		for _, n := range wild {
			list = append(list,
				impl.Rule{Freq: n, Every: 1}, impl.Rule{Freq: freq, Every: n}, impl.Rule{Freq: freq, Every: 1, Count: n},
				impl.Rule{Freq: freq, Every: 1, Until: n}, impl.Rule{Freq: freq, Every: 1, Count: n, Until: n},
				impl.Rule{Freq: freq, Every: 1, Week: n}, impl.Rule{Freq: freq, Every: n, Week: n, Days: []impl.By{{Day: 0}, {Day: 6}}},
				impl.Rule{Freq: freq, Every: 1, Days: []impl.By{{Num: n}}}, impl.Rule{Freq: freq, Every: 1, Days: []impl.By{{Day: n}}},
				impl.Rule{Freq: freq, Every: 1, Dates: []int{n}}, impl.Rule{Freq: freq, Every: 1, Months: []int{n}},
				impl.Rule{Freq: freq, Every: 1, Dates: []int{1}, Places: []int{n}}, impl.Rule{Freq: freq, Every: 1, Months: []int{2}, Places: []int{n}},
				impl.Rule{Freq: n, Every: n, Count: n, Until: n, Week: n, Days: []impl.By{{Num: n, Day: n}}, Dates: []int{n}, Months: []int{n}, Places: []int{n}})
		}
		for _, size := range []int{8, 9, 1000} {
			list = append(list, impl.Rule{Freq: freq, Every: 1, Days: make([]impl.By, size)}, impl.Rule{Freq: freq, Every: 1, Dates: make([]int, size)}, impl.Rule{Freq: freq, Every: 1, Months: make([]int, size)}, impl.Rule{Freq: freq, Every: 1, Dates: []int{1}, Places: make([]int, size)})
		}
	}
	return list
}

// No function of rules panics, and what is not ok has its fixed answer.
func TestRulesNeverPanic(t *testing.T) {
	days := []int{math.MinInt, math.MinInt + 11000, -1, 0, 1, 11000, 11001, 739935, impl.DayMax - 11001, impl.DayMax - 11000, impl.DayMax - 1, impl.DayMax, impl.DayMax + 1, math.MaxInt - 11000, math.MaxInt - 366, math.MaxInt}
	for _, r := range wildRules() {
		ok := slowRuleOk(r)
		if impl.RuleOk(r) != ok || impl.RulePut(r) != slowRulePut(r) {
			t.Fatalf("%+v: %v %q", r, !ok, impl.RulePut(r))
		}
		for _, start := range days {
			for _, day := range days {
				may := ok && isDay(start) && isDay(day) && day-start <= 11000
				list, on, next := impl.RuleDays(r, start, day), impl.RuleOn(r, start, day), impl.RuleNext(r, start, day)
				if !may && (len(list) != 0 || on || next != -1) {
					t.Fatalf("%+v, %d, %d: %v %v %d", r, start, day, list, on, next)
				}
				if may && on != (len(list) > 0 && slices.Contains(list, day)) && len(list) < 200 {
					t.Fatalf("%+v, %d, %d: %v %v", r, start, day, list, on)
				}
			}
		}
	}
}

func TestRuleGetNeverPanics(t *testing.T) {
	rng := rand.New(rand.NewSource(3))
	pieces := []string{"FREQ=", "DAILY", "WEEKLY", "MONTHLY", "YEARLY", ";", ",", "=", "INTERVAL=", "COUNT=", "UNTIL=", "BYDAY=", "BYMONTHDAY=", "BYMONTH=", "BYSETPOS=", "WKST=", "MO", "SU", "1", "-1", "9999-12-31", "9223372036854775808", "-9223372036854775808", "\xff", "\x00", "é", "", "M", "-"}
	for range 100000 {
		var text strings.Builder
		for range rng.Intn(12) {
			text.WriteString(pieces[rng.Intn(len(pieces))])
		}
		checkRuleGet(t, text.String())
	}
	for _, text := range []string{strings.Repeat(";", 1<<20), strings.Repeat("FREQ=DAILY;", 1<<17), "FREQ=MONTHLY;BYMONTHDAY=1" + strings.Repeat(",1", 1<<20), string(make([]byte, 300)), string(make([]byte, 301))} {
		if got, ok := impl.RuleGet(text); ok || !sameRule(got, impl.Rule{}) {
			t.Errorf("%d bytes: %+v", len(text), got)
		}
	}
}

// roomyRule has room behind its lists, with something in it that nobody may read or write.
func roomyRule() (impl.Rule, []impl.By, [][]int) {
	bys := []impl.By{{Num: -1, Day: 0}, {Num: 1, Day: 4}, {Num: 99, Day: 99}, {Num: 98, Day: 98}}
	dates, months, places := []int{-1, 1, 2, 3, 29, 777, 778}, []int{2, 11, 12, 777, 778}, []int{-1, 1, 2, 777, 778}
	r := impl.Rule{Freq: impl.FreqMonth, Every: 1, Days: bys[:2], Dates: dates[:5], Months: months[:3], Places: places[:3], Week: 3}
	return r, bys, [][]int{dates, months, places}
}

// Nothing is written into a rule, or behind the end of its lists; nothing behind their end is read.
func TestRuleIsNotChanged(t *testing.T) {
	r, bys, lists := roomyRule()
	for freq := 1; freq <= 4; freq++ {
		r.Freq = freq
		before, beforeBys, beforeLists := copyRule(r), slices.Clone(bys), [][]int{slices.Clone(lists[0]), slices.Clone(lists[1]), slices.Clone(lists[2])}
		ok := freq == impl.FreqMonth || freq == impl.FreqYear
		if impl.RuleOk(r) != ok || impl.RulePut(r) != slowRulePut(before) {
			t.Errorf("%d: %q", freq, impl.RulePut(r))
		}
		for start := 739000; start < 739800; start += 13 {
			days := impl.RuleDays(r, start, start+3000)
			if ok && !slices.Equal(days, upTo(slowComes(before, start, start+3000), start+3000)) {
				t.Errorf("%s: %v", ruleAt(before, start), days)
			}
			scribble(days)
			impl.RuleOn(r, start, start+100)
			impl.RuleNext(r, start, start+100)
		}
		if !sameRule(r, before) || !slices.Equal(bys, beforeBys) {
			t.Errorf("%+v %v", r, bys)
		}
		for i, list := range lists {
			if !slices.Equal(list, beforeLists[i]) {
				t.Errorf("list %d: %v", i, list)
			}
		}
	}
}

// An answer shares no memory with an argument or another answer, and no two lists of one answer share any.
func TestRuleAnswersAreNew(t *testing.T) {
	r, _, _ := roomyRule()
	one, other := impl.RuleDays(r, 739000, 739000+sight), impl.RuleDays(r, 739000, 739000+sight)
	want := slices.Clone(one)
	scribble(one)
	if len(want) == 0 || !slices.Equal(other, want) || !slices.Equal(impl.RuleDays(r, 739000, 739000+sight), want) {
		t.Errorf("%v", other)
	}
	text := impl.RulePut(r)
	for i := range 4 {
		got, ok := impl.RuleGet(text)
		again, _ := impl.RuleGet(text)
		if !ok || !sameRule(got, r) {
			t.Fatalf("%q: %+v", text, got)
		}
		whole := copyRule(got)
		switch i {
		case 0:
			scribble(got.Dates)
			whole.Dates = got.Dates
		case 1:
			scribble(got.Months)
			whole.Months = got.Months
		case 2:
			scribble(got.Places)
			whole.Places = got.Places
		case 3:
			bys := got.Days[:cap(got.Days)]
			for k := range bys {
				bys[k] = impl.By{Num: -99, Day: -99}
			}
			whole.Days = got.Days
		}
		if !sameRule(got, whole) || !sameRule(again, r) {
			t.Errorf("%d: %+v %+v", i, got, again)
		}
	}
}

// The empty lists and none at all are the same.
func TestRuleEmptyIsNil(t *testing.T) {
	for freq := 1; freq <= 4; freq++ {
		none := impl.Rule{Freq: freq, Every: 2}
		empty := impl.Rule{Freq: freq, Every: 2, Days: []impl.By{}, Dates: []int{}, Months: []int{}, Places: []int{}}
		if !impl.RuleOk(none) || !impl.RuleOk(empty) || impl.RulePut(none) != impl.RulePut(empty) {
			t.Errorf("%d: %q", freq, impl.RulePut(empty))
		}
		for start := 739000; start < 739400; start++ {
			if !slices.Equal(impl.RuleDays(none, start, start+1000), impl.RuleDays(empty, start, start+1000)) || impl.RuleNext(none, start, start+1) != impl.RuleNext(empty, start, start+1) || impl.RuleOn(none, start, start+14) != impl.RuleOn(empty, start, start+14) {
				t.Errorf("%d: %d", freq, start)
			}
		}
	}
}
