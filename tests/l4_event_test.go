package tests

import (
	"fmt"
	"math"
	"math/rand"
	"slices"
	"strings"
	"testing"

	"loop.example/ephemeris/impl"
)

func TestEventLimits(t *testing.T) {
	if impl.TitleMax != 16 || impl.LongMax != 20160 || impl.ZoneMax != 6 || impl.OverMax != 6 {
		t.Error(impl.TitleMax, impl.LongMax, impl.ZoneMax, impl.OverMax)
	}
}

// named are zones that never turn, with these names.
func named(names ...string) []impl.Zone {
	var zones []impl.Zone
	for _, name := range names {
		zones = append(zones, impl.Zone{Name: name})
	}
	return zones
}

func TestZonesOk(t *testing.T) {
	for i, c := range []struct {
		zones []impl.Zone
		ok    bool
	}{
		{nil, true}, {[]impl.Zone{}, true}, {named("utc"), true}, {append([]impl.Zone{north(t)}, named("utc")...), true},
		{named("a", "b", "c", "d", "e", "f"), true}, {named("a", "b", "c", "d", "e", "f", "g"), false},
		{named("b", "a"), false}, {named("a", "a"), false}, {named("a", "c", "b"), false}, {named("a", "b", "a"), false}, {named("a", "b", "b", "c"), false},
		{named("a", "ab"), true}, {named("ab", "a"), false}, {named("0", "a"), true}, {named("a", "0"), false}, {named("a9", "aa"), true}, {named("10", "9"), true}, {named("9", "10"), false},
		{named(""), false}, {named("", "a"), false}, {named("A", "a"), false}, {named("a", "toolongname"), false}, {named("a", "b "), false},
		{[]impl.Zone{{Name: "a"}, {Name: "b", Shift: 1441}}, false}, {[]impl.Zone{{Name: "a", Shift: -1441}, {Name: "b"}}, false}, {[]impl.Zone{{Name: "a"}, {Name: "b", Shift: 1440}}, true},
		{[]impl.Zone{{Name: "a", Turns: turnsFrom(0, 1, 2, 3, 4, 5, 6, 7, 8)}, {Name: "b"}}, true}, {[]impl.Zone{{Name: "a"}, {Name: "b", Turns: turnsFrom(0, 1, 2, 3, 4, 5, 6, 7, 8, 9)}}, false},
		{make([]impl.Zone, 1), false}, {make([]impl.Zone, 1000), false}, {make([]impl.Zone, 1000000), false},
	} {
		if impl.ZonesOk(c.zones) != c.ok || slowZonesOk(c.zones) != c.ok {
			t.Errorf("zones %d: %v", i, impl.ZonesOk(c.zones))
		}
	}
}

func teaZones(t *testing.T) []impl.Zone {
	return append([]impl.Zone{north(t)}, named("utc")...)
}

// tea comes at nine, each day from 2026-03-27 on.
func tea(t *testing.T) impl.Event {
	return impl.Event{Id: "tea", Title: "tea", Zone: "north", Start: mustTime(t, "2026-03-27T09:00"), Long: 30, Rule: impl.Rule{Freq: impl.FreqDay, Every: 1}}
}

func checkEventOk(t *testing.T, zones []impl.Zone, e impl.Event, want bool) {
	t.Helper()
	if slowEventOk(zones, e) != want {
		t.Errorf("%s: the test's own answer is %v", eventAt(e), !want)
	}
	if impl.EventOk(zones, e) != want {
		t.Errorf("%s: %v", eventAt(e), !want)
	}
}

// checkParts asks of a title, a length and a beginning, once as the event's own, and once as those of an Over.
func checkParts(t *testing.T, start int, long int, title string, want bool) {
	t.Helper()
	zones, own := teaZones(t), tea(t)
	over := tea(t)
	over.Overs = []impl.Over{{At: over.Start + dayMinutes, Start: start, Long: long, Title: title}}
	own.Start, own.Long, own.Title = start, long, title
	checkEventOk(t, zones, own, want)
	if impl.EventOk(zones, over) != want {
		t.Errorf("%s: %v", eventAt(over), !want)
	}
	over.Rule, over.Overs[0].At = impl.Rule{}, over.Start
	checkEventOk(t, zones, over, want)
	if _, ok := impl.EventOver(zones, tea(t), over.Overs[0]); ok != want {
		t.Errorf("over %+v: %v", over.Overs[0], ok)
	}
}

func TestEventOkParts(t *testing.T) {
	start := tea(t).Start
	for b := range 256 {
		one := string([]byte{byte(b)})
		want := b >= 32 && b <= 126
		for _, title := range []string{one, "a" + one, one + "a", strings.Repeat("a", 15) + one, one + strings.Repeat("a", 15)} {
			checkParts(t, start, 30, title, want)
		}
		checkParts(t, start, 30, strings.Repeat(one, 17), false)
	}
	for size := range 40 {
		checkParts(t, start, 30, strings.Repeat("~", size), size <= 16)
	}
	for _, title := range []string{"\x1f", "\x7f", "é", "a\nb", "\x00", "\xff", strings.Repeat(" ", 100000)} {
		checkParts(t, start, 30, title, false)
	}
	for _, long := range append([]int{20159, 20160, 20161}, wildInts...) {
		checkParts(t, start, long, "", long >= 1 && long <= 20160)
	}
	edges := []int{2879, 2880, 2881, impl.TimeMax - 23041, impl.TimeMax - 23040, impl.TimeMax - 23039, impl.TimeMax - 2880, impl.TimeMax - 20160}
	for _, at := range append(edges, wildInts...) {
		checkParts(t, at, 20160, "", at >= 2880 && at <= impl.TimeMax-23040)
		e := tea(t)
		e.Start = at
		if got := impl.EventComes(e, at); got != (at >= 2880 && at <= impl.TimeMax-23040) {
			t.Errorf("begins at %d: %v", at, got)
		}
	}
}

func TestEventOkNames(t *testing.T) {
	zones := teaZones(t)
	for _, id := range []string{"", "a", "0", "abcdefgh", "abcdefghi", "A", "a b", "é", "a\x00", strings.Repeat("a", 100000)} {
		e := tea(t)
		e.Id = id
		checkEventOk(t, zones, e, slowNameOk(id))
	}
	for _, zone := range []string{"", "north", "utc", "nort", "northh", "North", "south", "utc "} {
		e := tea(t)
		e.Zone = zone
		checkEventOk(t, zones, e, zone == "north" || zone == "utc")
		checkEventOk(t, named("utc"), e, zone == "utc")
		checkEventOk(t, nil, e, false)
	}
	for _, bad := range [][]impl.Zone{{zones[1], zones[0]}, {zones[0], zones[0]}, {zones[0], {Name: "utc", Shift: 1441}}, {{}, zones[0]}, append(named("a", "b", "c", "d", "e", "f"), zones[0])} {
		checkEventOk(t, bad, tea(t), false)
	}
	checkEventOk(t, append(named("a", "b", "c", "d", "e"), zones[0]), tea(t), true)
}

// No rule is one of which nothing is set: one without a Freq alone is none that is ok.
func TestEventOkRules(t *testing.T) {
	zones := teaZones(t)
	e := tea(t)
	for _, r := range []impl.Rule{{}, {Days: []impl.By{}, Dates: []int{}, Months: []int{}, Places: []int{}}} {
		e.Rule = r
		checkEventOk(t, zones, e, true)
		if !impl.EventComes(e, e.Start) || impl.EventComes(e, e.Start+dayMinutes) {
			t.Errorf("%+v: comes", r)
		}
	}
	for _, r := range []impl.Rule{{Every: 1}, {Count: 1}, {Until: 1}, {Week: 1}, {Days: []impl.By{{}}}, {Dates: []int{1}}, {Months: []int{1}}, {Places: []int{1}}, {Freq: 1}, {Freq: 5, Every: 1}, {Freq: 1, Every: 101}, {Freq: 1, Every: 1, Count: 501}, {Freq: 1, Every: 1, Count: 1, Until: 800000}, {Freq: 2, Every: 1, Dates: []int{1}}, {Freq: 3, Every: 1, Dates: []int{2, 1}}} {
		e.Rule = r
		checkEventOk(t, zones, e, false)
		if impl.EventComes(e, e.Start) || len(impl.EventHits(zones, e, 0, impl.TimeMax)) != 0 {
			t.Errorf("%+v: comes", r)
		}
	}
	for freq := 1; freq <= 4; freq++ {
		e.Rule = impl.Rule{Freq: freq, Every: 1}
		checkEventOk(t, zones, e, true)
	}
}

func someDays(start int, days ...int) []int {
	var times []int
	for _, day := range days {
		times = append(times, start+day*dayMinutes)
	}
	return times
}

func oversAt(times []int) []impl.Over {
	var overs []impl.Over
	for _, at := range times {
		overs = append(overs, impl.Over{At: at, Start: at + 60, Long: 10, Title: "x"})
	}
	return overs
}

// Outs and Overs at their limits, out of order, twice, or where the event does not come.
func TestEventOkLists(t *testing.T) {
	zones := teaZones(t)
	start := tea(t).Start
	for _, c := range []struct {
		times []int
		ok    bool
	}{
		{nil, true}, {[]int{}, true}, {someDays(start, 0), true}, {someDays(start, 0, 1, 2, 3, 4, 5), true}, {someDays(start, 0, 1, 2, 3, 4, 5, 6), false},
		{someDays(start, 1, 0), false}, {someDays(start, 3, 3), false}, {someDays(start, 1, 2, 5, 4), false}, {someDays(start, 1, 2, 5, 5), false}, {someDays(start, 2, 3, 2), false},
		{someDays(start, -1), false}, {someDays(start, -1, 0), false}, {[]int{start + 1}, false}, {[]int{start - 1}, false}, {[]int{start, start + 1441}, false}, {[]int{start + 720}, false},
		{someDays(start, 10999, 11000), true}, {someDays(start, 11001), false}, {someDays(start, 11000, 11001), false},
		{[]int{-1}, false}, {[]int{start % dayMinutes}, false}, {[]int{math.MinInt}, false}, {[]int{math.MaxInt}, false}, {[]int{start, math.MaxInt}, false}, {[]int{start % dayMinutes, start}, false},
		{make([]int, 7), false}, {make([]int, 1000000), false},
	} {
		e := tea(t)
		e.Outs = c.times
		checkEventOk(t, zones, e, c.ok)
		e = tea(t)
		e.Overs = oversAt(c.times)
		for i := range e.Overs {
			e.Overs[i].Start = start
		}
		checkEventOk(t, zones, e, c.ok)
	}
	for out := range 6 {
		for over := range 6 {
			e := tea(t)
			e.Outs, e.Overs = someDays(start, out), oversAt(someDays(start, over))
			checkEventOk(t, zones, e, out != over)
			e.Outs, e.Overs = someDays(start, out, out+10), oversAt(someDays(start, over, over+8))
			checkEventOk(t, zones, e, out != over && out+10 != over+8)
		}
	}
	e := tea(t)
	e.Outs, e.Overs = someDays(start, 0, 1, 2, 3, 4, 5), oversAt(someDays(start, 6, 7, 8, 9, 10, 11))
	checkEventOk(t, zones, e, true)
	e.Rule.Count = 12
	checkEventOk(t, zones, e, true)
	e.Rule.Count = 11
	checkEventOk(t, zones, e, false)
	e.Rule.Count, e.Rule.Until = 0, start/dayMinutes+11
	checkEventOk(t, zones, e, true)
	e.Rule.Until--
	checkEventOk(t, zones, e, false)
}

// P21: how far a rule is asked, and what is no time.
func TestEventComesFar(t *testing.T) {
	zones := teaZones(t)
	far := tea(t)
	far.Rule.Every = 100
	daily := tea(t)
	for day := 10800; day <= 11200; day++ {
		at := far.Start + day*dayMinutes
		if impl.EventComes(far, at) != (day%100 == 0 && day <= 11000) || impl.EventComes(daily, at) != (day <= 11000) {
			t.Errorf("%d days behind", day)
		}
		hits := impl.EventHits(zones, daily, at-60, at+60)
		if (len(hits) == 1) != (day <= 11000) {
			t.Errorf("%d days behind: %v", day, hits)
		}
		if _, ok := impl.EventOut(zones, far, at); ok != (day%100 == 0 && day <= 11000) {
			t.Errorf("%d days behind: out", day)
		}
	}
	for _, at := range wildInts {
		for _, r := range []impl.Rule{{}, daily.Rule, {Freq: 9}} {
			e := tea(t)
			e.Rule = r
			if impl.EventComes(e, at) {
				t.Errorf("%+v comes at %d", r, at)
			}
		}
	}
	last := impl.Event{Start: lastBeginning, Rule: impl.Rule{Freq: impl.FreqDay, Every: 1}}
	for day := range 20 {
		at := lastBeginning + day*dayMinutes
		if impl.EventComes(last, at) != (at <= impl.TimeMax) {
			t.Errorf("at %d", at)
		}
	}
}

// EventComes asks for no more than a rule and a beginning.
func TestEventComesAlone(t *testing.T) {
	e := tea(t)
	e.Id, e.Title, e.Zone, e.Long = "", strings.Repeat("\xff", 100), "", -1
	e.Outs, e.Overs = []int{e.Start, -1, e.Start}, []impl.Over{{At: e.Start}, {}}
	if !impl.EventComes(e, e.Start) || !impl.EventComes(e, e.Start+dayMinutes) || impl.EventComes(e, e.Start+1) {
		t.Error("by a rule")
	}
	e.Rule = impl.Rule{}
	if !impl.EventComes(e, e.Start) || impl.EventComes(e, e.Start+dayMinutes) || impl.EventComes(e, -1) {
		t.Error("once")
	}
}

// P21
func TestEventComes(t *testing.T) {
	someEvents(t, 21, 250, func(rng *rand.Rand, zones []impl.Zone, e impl.Event, times []int) {
		start := e.Start / dayMinutes
		for day := max(0, start-3); day <= min(start+120, impl.DayMax); day++ {
			at := day*dayMinutes + e.Start%dayMinutes
			want := slices.Contains(times, at)
			byRule := impl.RuleOn(e.Rule, start, day) || hasNoRule(e) && at == e.Start
			if impl.EventComes(e, at) != want || byRule != want {
				t.Fatalf("%s at %d: %v", eventAt(e), at, !want)
			}
			if impl.EventComes(e, at+1) || impl.EventComes(e, at-1) || impl.EventComes(e, at+60) || impl.EventComes(e, at+rng.Intn(1439)+1) {
				t.Fatalf("%s beside %d", eventAt(e), at)
			}
		}
		for range 20 {
			at := rng.Intn(impl.TimeMax + 1)
			if len(times) > 0 && rng.Intn(2) == 0 {
				at = times[rng.Intn(len(times))] + (rng.Intn(3)-1)*dayMinutes
			}
			if impl.EventComes(e, at) != slices.Contains(times, at) {
				t.Fatalf("%s at %d", eventAt(e), at)
			}
		}
	})
}

// P19: events of all sorts have just the hits that they have done the long way.
func TestEventsOfAllSorts(t *testing.T) {
	told, turned := 0, 0
	someEvents(t, 19, 700, func(rng *rand.Rand, zones []impl.Zone, e impl.Event, times []int) {
		for range 20 {
			from, to := someSpan(rng, zones, e, times)
			want := firstHits(slowHits(zones, e, times, from, to))
			got := impl.EventHits(zones, e, from, to)
			if !slices.Equal(got, want) {
				t.Fatalf("%s in %v from %d to %d: %v, not %v", eventAt(e), zones, from, to, got, want)
			}
			told += len(got)
			for i, hit := range got {
				if hit.From >= to || hit.To <= from || !impl.EventComes(e, hit.At) || slices.Contains(e.Outs, hit.At) || i > 0 && hit.From < got[i-1].From {
					t.Fatalf("%s from %d to %d: %v", eventAt(e), from, to, got)
				}
				if i > 0 && hit.At < got[i-1].At {
					turned++
				}
			}
		}
		if got := impl.EventHits(zones, e, 0, impl.TimeMax); !slices.Equal(got, firstHits(slowHits(zones, e, times, 0, impl.TimeMax))) {
			t.Fatalf("%s: %v", eventAt(e), got)
		}
	})
	if told < 10000 || turned < 100 {
		t.Errorf("only %d hits, %d of them ahead of an earlier one", told, turned)
	}
}

// hitsText is one hit a word: its At and From, and how long it is.
func hitsText(hits []impl.Hit) string {
	var words []string
	for _, hit := range hits {
		words = append(words, impl.TimeText(hit.At)+"/"+impl.TimeText(hit.From)+"/"+fmt.Sprint(hit.To-hit.From))
	}
	return strings.Join(words, " ")
}

func checkHits(t *testing.T, zones []impl.Zone, e impl.Event, from string, to string, want string) {
	t.Helper()
	if got := hitsText(impl.EventHits(zones, e, mustTime(t, from), mustTime(t, to))); got != want {
		t.Errorf("%s from %s to %s: %s, not %s", eventAt(e), from, to, got, want)
	}
}

// P19, by dates: a rule of each Freq, in a zone that turns and in one that never does.
func TestEventExamples(t *testing.T) {
	zones := teaZones(t)
	for _, c := range []struct{ rule, start, north, utc string }{
		{"", "2026-03-28T09:00", "2026-03-28T09:00/2026-03-28T08:00/30", "2026-03-28T09:00/2026-03-28T09:00/30"},
		{"FREQ=DAILY;COUNT=3", "2026-03-27T09:00", "2026-03-27T09:00/2026-03-27T08:00/30 2026-03-28T09:00/2026-03-28T08:00/30 2026-03-29T09:00/2026-03-29T07:00/30", "2026-03-27T09:00/2026-03-27T09:00/30 2026-03-28T09:00/2026-03-28T09:00/30 2026-03-29T09:00/2026-03-29T09:00/30"},
		{"FREQ=WEEKLY;COUNT=2", "2026-03-27T09:00", "2026-03-27T09:00/2026-03-27T08:00/30 2026-04-03T09:00/2026-04-03T07:00/30", "2026-03-27T09:00/2026-03-27T09:00/30 2026-04-03T09:00/2026-04-03T09:00/30"},
		{"FREQ=MONTHLY;COUNT=2;BYDAY=-1FR", "2026-03-01T00:30", "2026-03-27T00:30/2026-03-26T23:30/30 2026-04-24T00:30/2026-04-23T22:30/30", "2026-03-27T00:30/2026-03-27T00:30/30 2026-04-24T00:30/2026-04-24T00:30/30"},
		{"FREQ=YEARLY;COUNT=2;BYMONTH=3,11", "2026-03-02T23:59", "2026-03-02T23:59/2026-03-02T22:59/30 2026-11-02T23:59/2026-11-02T22:59/30", "2026-03-02T23:59/2026-03-02T23:59/30 2026-11-02T23:59/2026-11-02T23:59/30"},
	} {
		e := tea(t)
		e.Start = mustTime(t, c.start)
		if c.rule != "" {
			e.Rule = mustRule(t, c.rule)
		} else {
			e.Rule = impl.Rule{}
		}
		checkHits(t, zones, e, "2026-01-01T00:00", "2027-01-01T00:00", c.north)
		e.Zone = "utc"
		checkHits(t, zones, e, "2026-01-01T00:00", "2027-01-01T00:00", c.utc)
	}
}

// P19: what the clock never shows is as if it had not turned; of what it shows twice the first counts.
func TestEventAtTurns(t *testing.T) {
	zones, e := teaZones(t), tea(t)
	e.Start = mustTime(t, "2026-03-28T02:30")
	checkHits(t, zones, e, "2026-03-28T00:00", "2026-03-31T00:00", "2026-03-28T02:30/2026-03-28T01:30/30 2026-03-29T02:30/2026-03-29T01:30/30 2026-03-30T02:30/2026-03-30T00:30/30")
	checkHits(t, zones, e, "2026-10-24T00:00", "2026-10-27T00:00", "2026-10-24T02:30/2026-10-24T00:30/30 2026-10-25T02:30/2026-10-25T00:30/30 2026-10-26T02:30/2026-10-26T01:30/30")
	once := e
	once.Rule, once.Start = impl.Rule{}, mustTime(t, "2026-03-29T02:30")
	checkHits(t, zones, once, "2026-03-29T01:59", "2026-03-29T02:00", "2026-03-29T02:30/2026-03-29T01:30/30")
	checkHits(t, zones, once, "2026-03-29T02:00", "2026-03-29T09:00", "")
	once.Start = mustTime(t, "2026-10-25T02:30")
	checkHits(t, zones, once, "2026-10-25T00:00", "2026-10-25T03:00", "2026-10-25T02:30/2026-10-25T00:30/30")
	checkHits(t, zones, once, "2026-10-25T01:00", "2026-10-25T03:00", "")
	moved, ok := impl.EventOver(zones, once, impl.Over{At: once.Start, Start: mustTime(t, "2026-03-29T02:59"), Long: 1})
	if !ok {
		t.Error("a change to what the clock never shows")
	}
	checkHits(t, zones, moved, "2026-03-29T01:59", "2026-03-29T02:00", "2026-10-25T02:30/2026-03-29T01:59/1")
}

// P19: a clock that leaves two days out lets two of an event begin at once, and a later one ahead of an earlier one.
func TestEventSameFrom(t *testing.T) {
	turn := mustTime(t, "2026-03-29T00:00")
	wild := []impl.Zone{{Name: "wild", Shift: -1440, Turns: []impl.Turn{{At: turn, Shift: 1440}}}}
	e := tea(t)
	e.Zone, e.Start = "wild", mustTime(t, "2026-03-27T12:00")
	checkHits(t, wild, e, "2026-03-28T00:00", "2026-03-31T00:00", "2026-03-27T12:00/2026-03-28T12:00/30 2026-03-28T12:00/2026-03-29T12:00/30 2026-03-30T12:00/2026-03-29T12:00/30 2026-03-29T12:00/2026-03-30T12:00/30 2026-03-31T12:00/2026-03-30T12:00/30")
	zones, e := teaZones(t), tea(t)
	e.Overs = oversAt(someDays(e.Start, 1, 2, 3, 4, 5, 6))
	for i := range e.Overs {
		e.Overs[i].Start = e.Start + 3*dayMinutes
	}
	checkHits(t, zones, e, "2026-03-30T00:00", "2026-03-31T00:00", "2026-03-28T09:00/2026-03-30T07:00/10 2026-03-29T09:00/2026-03-30T07:00/10 2026-03-30T09:00/2026-03-30T07:00/10 2026-03-31T09:00/2026-03-30T07:00/10 2026-04-01T09:00/2026-03-30T07:00/10 2026-04-02T09:00/2026-03-30T07:00/10")
	e.Overs = e.Overs[3:]
	checkHits(t, zones, e, "2026-03-30T00:00", "2026-03-31T00:00", "2026-03-30T09:00/2026-03-30T07:00/30 2026-03-31T09:00/2026-03-30T07:00/10 2026-04-01T09:00/2026-03-30T07:00/10 2026-04-02T09:00/2026-03-30T07:00/10")
}

// P19: what just touches a span, and what just does not; with from not below to, it is what begins ahead of to, and ends behind from.
func TestEventTouches(t *testing.T) {
	zones := teaZones(t)
	for _, long := range []int{1, 2, 30, 20160} {
		e := tea(t)
		e.Rule, e.Long = impl.Rule{}, long
		begin := e.Start - 60
		for _, from := range []int{0, begin - 2, begin - 1, begin, begin + 1, begin + long - 1, begin + long, begin + long + 1, impl.TimeMax} {
			for _, to := range []int{0, begin - 1, begin, begin + 1, begin + 2, begin + long - 1, begin + long, begin + long + 1, impl.TimeMax} {
				want := begin < to && begin+long > from
				got := impl.EventHits(zones, e, from, to)
				if (len(got) == 1) != want || want && got[0] != (impl.Hit{Id: "tea", At: e.Start, From: begin, To: begin + long, Title: "tea"}) {
					t.Errorf("%d long, from %d to %d: %v", long, from-begin, to-begin, got)
				}
			}
		}
	}
}

// P19: a change that moves one into a span, and one that moves it out; of both what is told is where it is now.
func TestEventMoved(t *testing.T) {
	zones, e := teaZones(t), tea(t)
	e.Rule = mustRule(t, "FREQ=WEEKLY;COUNT=4")
	at := e.Start + 7*dayMinutes
	moved, ok := impl.EventOver(zones, e, impl.Over{At: at, Start: mustTime(t, "2030-01-01T00:00"), Long: 5, Title: "far"})
	if !ok {
		t.Fatal(moved)
	}
	checkHits(t, zones, moved, "2026-04-01T00:00", "2026-04-14T00:00", "2026-04-10T09:00/2026-04-10T07:00/30")
	checkHits(t, zones, moved, "2029-12-31T00:00", "2030-01-02T00:00", "2026-04-03T09:00/2029-12-31T23:00/5")
	back, ok := impl.EventOver(zones, moved, impl.Over{At: at, Start: mustTime(t, "1990-01-01T00:00"), Long: 20160, Title: "early"})
	if !ok || len(back.Overs) != 1 {
		t.Fatal(back)
	}
	checkHits(t, zones, back, "1990-01-14T22:59", "1990-02-01T00:00", "2026-04-03T09:00/1989-12-31T23:00/20160")
	checkHits(t, zones, back, "1990-01-14T23:00", "1990-02-01T00:00", "")
	checkHits(t, zones, back, "2029-12-31T00:00", "2030-01-02T00:00", "")
	checkHits(t, zones, back, "0001-01-01T00:00", "9999-12-31T23:59", "2026-04-03T09:00/1989-12-31T23:00/20160 2026-03-27T09:00/2026-03-27T08:00/30 2026-04-10T09:00/2026-04-10T07:00/30 2026-04-17T09:00/2026-04-17T07:00/30")
}

// P19: the first HitMax by when they begin, not by their own times.
func TestEventFirstHits(t *testing.T) {
	zones, e := teaZones(t), tea(t)
	for _, count := range []int{1, 199, 200, 201, 500} {
		e.Rule.Count = count
		hits := impl.EventHits(zones, e, 0, impl.TimeMax)
		if len(hits) != min(count, 200) || hits[len(hits)-1].At != e.Start+(min(count, 200)-1)*dayMinutes {
			t.Errorf("count %d: %d", count, len(hits))
		}
	}
	for _, skip := range []int{0, 1, 250, 299, 300, 301, 499} {
		hits := impl.EventHits(zones, e, e.Start+skip*dayMinutes, impl.TimeMax)
		first := e.Start + (skip+1)*dayMinutes
		if skip == 499 {
			if len(hits) != 0 {
				t.Errorf("behind all: %v", hits)
			}
		} else if len(hits) != min(499-skip, 200) || hits[0].At != first {
			t.Errorf("behind %d: %d", skip, len(hits))
		}
	}
	late := e.Start + 450*dayMinutes
	early, ok := impl.EventOver(zones, e, impl.Over{At: late, Start: e.Start - dayMinutes, Long: 7, Title: "early"})
	hits := impl.EventHits(zones, early, 0, impl.TimeMax)
	if !ok || len(hits) != 200 || hits[0].At != late || hits[0].Title != "early" || hits[199].At != e.Start+198*dayMinutes {
		t.Error(hitsText(hits))
	}
	gone, ok := impl.EventOver(zones, e, impl.Over{At: e.Start, Start: late + 60, Long: 7, Title: "late"})
	hits = impl.EventHits(zones, gone, 0, impl.TimeMax)
	if !ok || len(hits) != 200 || hits[0].At != e.Start+dayMinutes || hits[199].At != e.Start+200*dayMinutes {
		t.Error(hitsText(hits))
	}
	out, ok := impl.EventOut(zones, e, e.Start+3*dayMinutes)
	hits = impl.EventHits(zones, out, 0, impl.TimeMax)
	if !ok || len(hits) != 200 || hits[199].At != e.Start+200*dayMinutes {
		t.Error(hitsText(hits))
	}
}

// P19, at the end of all time: what ends behind it is told; what a clock that is behind shows too late for the world has ZoneWorld's -1 as its From.
func TestEventsAtTheEnd(t *testing.T) {
	zones := []impl.Zone{{Name: "east", Shift: 1440}, {Name: "utc"}, {Name: "west", Shift: -1440}}
	start := lastBeginning - 1
	e := impl.Event{Id: "end", Zone: "utc", Start: start, Long: 20160, Rule: impl.Rule{Freq: impl.FreqDay, Every: 1}}
	hits := impl.EventHits(zones, e, impl.TimeMax-1, impl.TimeMax)
	if len(hits) != 14 || hits[13].From != impl.TimeMax-1 || hits[13].To != impl.TimeMax-1+20160 {
		t.Errorf("%v", hits)
	}
	e.Zone = "east"
	if hits := impl.EventHits(zones, e, 0, impl.TimeMax); len(hits) != 17 || hits[16].From != impl.TimeMax-1-dayMinutes {
		t.Errorf("%v", hits)
	}
	e.Zone, e.Long = "west", 30
	last := impl.Hit{Id: "end", At: start + 16*dayMinutes, From: -1, To: 29}
	if hits := impl.EventHits(zones, e, 0, impl.TimeMax); len(hits) != 17 || hits[0] != last || hits[16].From != impl.TimeMax-1 {
		t.Errorf("%v", hits)
	}
	for from, want := range map[int]int{0: 1, 28: 1, 29: 0, 30: 0} {
		if hits := impl.EventHits(zones, e, from, 100); len(hits) != want || want == 1 && hits[0] != last {
			t.Errorf("from %d: %v", from, hits)
		}
	}
	if hits := impl.EventHits(zones, e, 0, 0); len(hits) != 1 || hits[0] != last {
		t.Errorf("%v", hits)
	}
}

// P20
func TestSpansSideBySide(t *testing.T) {
	some := 0
	someEvents(t, 20, 400, func(rng *rand.Rand, zones []impl.Zone, e impl.Event, times []int) {
		for range 10 {
			from, to := someSpan(rng, zones, e, times)
			if from >= to {
				continue
			}
			middle := from + rng.Intn(to-from+1)
			whole, one, other := impl.EventHits(zones, e, from, to), impl.EventHits(zones, e, from, middle), impl.EventHits(zones, e, middle, to)
			if len(whole) == 200 || middle == from || middle == to {
				continue
			}
			both := slices.Concat(one, other)
			slices.SortFunc(both, func(a, b impl.Hit) int {
				if a.From != b.From {
					return a.From - b.From
				}
				return a.At - b.At
			})
			if both = slices.Compact(both); !slices.Equal(both, whole) {
				t.Fatalf("%s from %d, %d, to %d: %v, not %v", eventAt(e), from, middle, to, both, whole)
			}
			some += min(len(one), len(other))
		}
	})
	if some < 500 {
		t.Errorf("only %d hits", some)
	}
}

func without(hits []impl.Hit, at int) []impl.Hit {
	return slices.DeleteFunc(slices.Clone(hits), func(hit impl.Hit) bool { return hit.At == at })
}

// P22
func TestEventOut(t *testing.T) {
	done := 0
	someEvents(t, 22, 500, func(rng *rand.Rand, zones []impl.Zone, e impl.Event, times []int) {
		for range 6 {
			at := e.Start + (rng.Intn(20)-2)*dayMinutes
			if len(times) > 0 && rng.Intn(4) > 0 {
				at = times[rng.Intn(min(len(times), 60))]
			}
			want := slices.Contains(times, at) && !slices.Contains(e.Outs, at) && len(e.Outs) < 6
			got, ok := impl.EventOut(zones, e, at)
			if ok != want {
				t.Fatalf("%s out at %d: %v", eventAt(e), at, ok)
			}
			if !ok && !sameEvent(got, e) {
				t.Fatalf("%s is not as it is: %s", eventAt(e), eventAt(got))
			}
			if !ok {
				continue
			}
			done++
			next := copyEvent(e)
			next.Outs = append(next.Outs, at)
			slices.Sort(next.Outs)
			next.Overs = slices.DeleteFunc(next.Overs, func(o impl.Over) bool { return o.At == at })
			if !sameEvent(got, next) || !impl.EventOk(zones, got) {
				t.Fatalf("%s out at %d: %s", eventAt(e), at, eventAt(got))
			}
			if again, ok := impl.EventOut(zones, got, at); ok || !sameEvent(again, got) {
				t.Fatalf("%s out again at %d: %s", eventAt(got), at, eventAt(again))
			}
			from, to := someSpan(rng, zones, e, times)
			if hits := impl.EventHits(zones, e, from, to); len(hits) < 200 && !slices.Equal(impl.EventHits(zones, got, from, to), without(hits, at)) {
				t.Fatalf("%s out at %d", eventAt(e), at)
			}
		}
	})
	if done < 500 {
		t.Errorf("only %d", done)
	}
}

// P22: one that has an Over, one that is out, with OverMax Outs, and with no rule.
func TestEventOutEdges(t *testing.T) {
	zones, e := teaZones(t), tea(t)
	start := e.Start
	e.Outs, e.Overs = someDays(start, 4, 2, 6), oversAt(someDays(start, 1, 3, 5, 7, 8, 9))
	slices.Sort(e.Outs)
	for i, c := range []struct {
		day   int
		ok    bool
		outs  []int
		overs []int
	}{
		{3, true, []int{2, 3, 4, 6}, []int{1, 5, 7, 8, 9}}, {1, true, []int{1, 2, 4, 6}, []int{3, 5, 7, 8, 9}}, {9, true, []int{2, 4, 6, 9}, []int{1, 3, 5, 7, 8}},
		{0, true, []int{0, 2, 4, 6}, []int{1, 3, 5, 7, 8, 9}}, {11000, true, []int{2, 4, 6, 11000}, []int{1, 3, 5, 7, 8, 9}},
		{2, false, []int{2, 4, 6}, []int{1, 3, 5, 7, 8, 9}}, {6, false, []int{2, 4, 6}, []int{1, 3, 5, 7, 8, 9}}, {-1, false, []int{2, 4, 6}, []int{1, 3, 5, 7, 8, 9}}, {11001, false, []int{2, 4, 6}, []int{1, 3, 5, 7, 8, 9}},
	} {
		got, ok := impl.EventOut(zones, e, start+c.day*dayMinutes)
		want := copyEvent(e)
		want.Outs, want.Overs = someDays(start, c.outs...), oversAt(someDays(start, c.overs...))
		if ok != c.ok || !sameEvent(got, want) {
			t.Errorf("case %d: %s", i, eventAt(got))
		}
	}
	full := tea(t)
	for day := range 6 {
		next, ok := impl.EventOut(zones, full, start+day*dayMinutes)
		if !ok || len(next.Outs) != day+1 {
			t.Fatal(eventAt(next))
		}
		full = next
	}
	full.Overs = oversAt(someDays(start, 7))
	for _, day := range []int{0, 6, 7} {
		if got, ok := impl.EventOut(zones, full, start+day*dayMinutes); ok || !sameEvent(got, full) {
			t.Errorf("day %d: %s", day, eventAt(got))
		}
	}
	once := tea(t)
	once.Rule = impl.Rule{}
	out, ok := impl.EventOut(zones, once, start)
	if !ok || !slices.Equal(out.Outs, []int{start}) || len(impl.EventHits(zones, out, 0, impl.TimeMax)) != 0 {
		t.Errorf("%s", eventAt(out))
	}
	if !impl.EventComes(out, start) {
		t.Error("what is out comes by its rule")
	}
}

// P23, P54
func TestEventOver(t *testing.T) {
	done := 0
	someEvents(t, 23, 500, func(rng *rand.Rand, zones []impl.Zone, e impl.Event, times []int) {
		for range 6 {
			at := e.Start + (rng.Intn(20)-2)*dayMinutes
			if len(times) > 0 && rng.Intn(4) > 0 {
				at = times[rng.Intn(min(len(times), 60))]
			}
			o := someOver(rng, at)
			switch rng.Intn(12) {
			case 0:
				o.Long = 20161 * rng.Intn(2)
			case 1:
				o.Start = []int{2879, lastBeginning + 1}[rng.Intn(2)]
			case 2:
				o.Title = []string{"\x1f", "\x7f", "0123456789abcdefg"}[rng.Intn(3)]
			}
			checkOver(t, rng, zones, e, times, o)
			if _, ok := impl.EventOver(zones, e, o); ok {
				done++
			}
		}
	})
	if done < 500 {
		t.Errorf("only %d", done)
	}
}

func checkOver(t *testing.T, rng *rand.Rand, zones []impl.Zone, e impl.Event, times []int, o impl.Over) {
	t.Helper()
	next := copyEvent(e)
	next.Overs = slices.DeleteFunc(next.Overs, func(x impl.Over) bool { return x.At == o.At })
	next.Overs = append(next.Overs, o)
	slices.SortFunc(next.Overs, func(a, b impl.Over) int { return a.At - b.At })
	want := slowPartOk(o.Start, o.Long, o.Title) && slices.Contains(times, o.At) && !slices.Contains(e.Outs, o.At) && len(next.Overs) <= 6
	got, ok := impl.EventOver(zones, e, o)
	if ok != want || !ok && !sameEvent(got, e) || ok && (!sameEvent(got, next) || !impl.EventOk(zones, got)) {
		t.Fatalf("%s over %+v: %s, %v", eventAt(e), o, eventAt(got), ok)
	}
	if !ok {
		return
	}
	from, to := someSpan(rng, zones, e, times)
	before, after := impl.EventHits(zones, e, from, to), impl.EventHits(zones, got, from, to)
	if len(before) < 200 && len(after) < 200 && !slices.Equal(without(before, o.At), without(after, o.At)) {
		t.Fatalf("%s over %+v from %d to %d: %v, not %v", eventAt(e), o, from, to, after, before)
	}
	z, _ := slowZone(zones, e.Zone)
	begin := impl.ZoneWorld(z, o.Start)
	hits := impl.EventHits(zones, got, begin, begin+1)
	if !slices.Contains(hits, impl.Hit{Id: e.Id, At: o.At, From: begin, To: begin + o.Long, Title: o.Title}) {
		t.Fatalf("%s over %+v: %v", eventAt(e), o, hits)
	}
}

// P23: in the place of one, in order, and with OverMax Overs.
func TestEventOverEdges(t *testing.T) {
	zones, e := teaZones(t), tea(t)
	start := e.Start
	e.Outs, e.Overs = someDays(start, 0, 20), oversAt(someDays(start, 2, 4, 6, 8, 10))
	for i, c := range []struct {
		day   int
		ok    bool
		place int
		size  int
	}{
		{2, true, 0, 5}, {6, true, 2, 5}, {10, true, 4, 5}, {1, true, 0, 6}, {3, true, 1, 6}, {9, true, 4, 6}, {11, true, 5, 6}, {11000, true, 5, 6},
		{0, false, 0, 5}, {20, false, 0, 5}, {-1, false, 0, 5}, {11001, false, 0, 5},
	} {
		o := impl.Over{At: start + c.day*dayMinutes, Start: start, Long: 20160, Title: "0123456789abcdef"}
		got, ok := impl.EventOver(zones, e, o)
		if ok != c.ok || len(got.Overs) != c.size || ok && got.Overs[c.place] != o || !ok && !sameEvent(got, e) || !slices.Equal(got.Outs, e.Outs) {
			t.Errorf("case %d: %s", i, eventAt(got))
		}
	}
	e.Overs = oversAt(someDays(start, 2, 4, 6, 8, 10, 12))
	for day := range 15 {
		o := impl.Over{At: start + day*dayMinutes, Start: start, Long: 1}
		got, ok := impl.EventOver(zones, e, o)
		there := slices.Contains([]int{2, 4, 6, 8, 10, 12}, day)
		if ok != there || len(got.Overs) != 6 || ok && got.Overs[day/2-1] != o || !ok && !sameEvent(got, e) {
			t.Errorf("day %d: %s", day, eventAt(got))
		}
	}
	once := tea(t)
	once.Rule = impl.Rule{}
	o := impl.Over{At: start, Start: start + 600, Long: 5, Title: "x"}
	got, ok := impl.EventOver(zones, once, o)
	if hits := impl.EventHits(zones, got, 0, impl.TimeMax); !ok || len(hits) != 1 || hits[0] != (impl.Hit{Id: "tea", At: start, From: start + 540, To: start + 545, Title: "x"}) {
		t.Errorf("%v", hits)
	}
	if !impl.EventComes(got, start) || impl.EventComes(got, start+600) {
		t.Error("what is moved comes by its rule where it came")
	}
	for _, at := range append([]int{start + 1, start - 1}, wildInts...) {
		if got, ok := impl.EventOver(zones, once, impl.Over{At: at, Start: start, Long: 1}); ok || !sameEvent(got, once) {
			t.Errorf("at %d: %s", at, eventAt(got))
		}
	}
}

// P24
func TestEventSplit(t *testing.T) {
	done := 0
	someEvents(t, 24, 700, func(rng *rand.Rand, zones []impl.Zone, e impl.Event, times []int) {
		for range 5 {
			at := e.Start + (rng.Intn(20)-2)*dayMinutes
			if len(times) > 0 && rng.Intn(5) > 0 {
				at = times[rng.Intn(min(len(times), []int{3, 45, 20000}[rng.Intn(3)]))]
			}
			id := []string{"new", "new", "new", e.Id, "", "New", "012345678"}[rng.Intn(7)]
			want := !hasNoRule(e) && slices.Contains(times, at) && at != e.Start && at <= lastBeginning && id == "new"
			first, second, ok := impl.EventSplit(zones, e, at, id)
			if ok != want || !ok && !(isNothing(first) && isNothing(second)) {
				t.Fatalf("%s parted at %d as %q: %v", eventAt(e), at, id, ok)
			}
			if ok {
				done++
				checkSplit(t, zones, e, times, at, first, second)
			}
		}
	})
	if done < 500 {
		t.Errorf("only %d", done)
	}
}

func checkSplit(t *testing.T, zones []impl.Zone, e impl.Event, times []int, at int, first impl.Event, second impl.Event) {
	t.Helper()
	ahead, behind := copyEvent(e), copyEvent(e)
	ahead.Rule.Count, ahead.Rule.Until = 0, at/dayMinutes-1
	behind.Id, behind.Start = "new", at
	if e.Rule.Count > 0 {
		behind.Rule.Count -= slices.Index(times, at)
	}
	ahead.Outs = slices.DeleteFunc(ahead.Outs, func(when int) bool { return when >= at })
	behind.Outs = slices.DeleteFunc(behind.Outs, func(when int) bool { return when < at })
	ahead.Overs = slices.DeleteFunc(ahead.Overs, func(o impl.Over) bool { return o.At >= at })
	behind.Overs = slices.DeleteFunc(behind.Overs, func(o impl.Over) bool { return o.At < at })
	if !sameEvent(first, ahead) || !sameEvent(second, behind) || !impl.EventOk(zones, first) || !impl.EventOk(zones, second) {
		t.Fatalf("%s parted at %d: %s and %s", eventAt(e), at, eventAt(first), eventAt(second))
	}
	from, to := max(at-50000, 0), min(at+50000, impl.TimeMax)
	if at/dayMinutes+60 > e.Start/dayMinutes+sight {
		return // the second part is asked further than the whole one
	}
	var whole, parts []impl.Hit
	for _, hit := range impl.EventHits(zones, e, from, to) {
		if hit.At >= at {
			hit.Id = "new"
		}
		whole = append(whole, hit)
	}
	for _, hit := range impl.EventHits(zones, first, from, to) {
		if hit.At >= at {
			t.Fatalf("%s parted at %d: the first has %v", eventAt(e), at, hit)
		}
		parts = append(parts, hit)
	}
	parts = append(parts, impl.EventHits(zones, second, from, to)...)
	slices.SortFunc(parts, func(a, b impl.Hit) int {
		if a.From != b.From {
			return a.From - b.From
		}
		return a.At - b.At
	})
	if !slices.Equal(parts, whole) {
		t.Fatalf("%s parted at %d: %v, not %v", eventAt(e), at, parts, whole)
	}
}

// P24: a rule with Count, with Until and with neither, with Outs and Overs on both sides of the time, and at it.
func TestEventSplitExamples(t *testing.T) {
	zones := teaZones(t)
	start := tea(t).Start
	day := start / dayMinutes
	for i, c := range []struct {
		count, until, at int
		second           impl.Rule
	}{
		{10, 0, 4, impl.Rule{Freq: 1, Every: 1, Count: 6}}, {10, 0, 9, impl.Rule{Freq: 1, Every: 1, Count: 1}}, {10, 0, 1, impl.Rule{Freq: 1, Every: 1, Count: 9}}, {500, 0, 450, impl.Rule{Freq: 1, Every: 1, Count: 50}}, {500, 0, 201, impl.Rule{Freq: 1, Every: 1, Count: 299}},
		{0, 9, 4, impl.Rule{Freq: 1, Every: 1, Until: day + 9}}, {0, 9, 9, impl.Rule{Freq: 1, Every: 1, Until: day + 9}}, {0, 0, 4, impl.Rule{Freq: 1, Every: 1}}, {0, 0, 11000, impl.Rule{Freq: 1, Every: 1}},
	} {
		e := tea(t)
		e.Rule.Count = c.count
		if c.until > 0 {
			e.Rule.Until = day + c.until
		}
		outs, overs := []int{0, 3, 4, 8}, []int{1, 2, 5, 9}
		e.Outs, e.Overs = someDays(start, outs...), oversAt(someDays(start, overs...))
		first, second, ok := impl.EventSplit(zones, e, start+c.at*dayMinutes, "new")
		wantFirst, wantSecond := copyEvent(e), copyEvent(e)
		wantFirst.Rule = impl.Rule{Freq: 1, Every: 1, Until: day + c.at - 1}
		wantSecond.Rule, wantSecond.Id, wantSecond.Start = c.second, "new", start+c.at*dayMinutes
		n := len(outs) - len(slices.DeleteFunc(slices.Clone(outs), func(d int) bool { return d < c.at }))
		m := len(overs) - len(slices.DeleteFunc(slices.Clone(overs), func(d int) bool { return d < c.at }))
		wantFirst.Outs, wantSecond.Outs = e.Outs[:n], e.Outs[n:]
		wantFirst.Overs, wantSecond.Overs = e.Overs[:m], e.Overs[m:]
		if !ok || !sameEvent(first, wantFirst) || !sameEvent(second, wantSecond) {
			t.Errorf("case %d: %s and %s", i, eventAt(first), eventAt(second))
		}
	}
	work := tea(t)
	work.Rule = mustRule(t, "FREQ=MONTHLY;COUNT=6;BYDAY=MO,TU,WE,TH,FR;BYSETPOS=-1,1")
	first, second, ok := impl.EventSplit(zones, work, mustTime(t, "2026-05-01T09:00"), "b")
	if !ok || second.Rule.Count != 3 {
		t.Errorf("%s", eventAt(second))
	}
	checkHits(t, zones, first, "2026-01-01T00:00", "2027-01-01T00:00", "2026-03-31T09:00/2026-03-31T07:00/30 2026-04-01T09:00/2026-04-01T07:00/30 2026-04-30T09:00/2026-04-30T07:00/30")
	checkHits(t, zones, second, "2026-01-01T00:00", "2027-01-01T00:00", "2026-05-01T09:00/2026-05-01T07:00/30 2026-05-29T09:00/2026-05-29T07:00/30 2026-06-01T09:00/2026-06-01T07:00/30")
}

// P24: what can't be parted.
func TestEventSplitWrong(t *testing.T) {
	zones, e := teaZones(t), tea(t)
	start := e.Start
	once := tea(t)
	once.Rule = impl.Rule{}
	counted := tea(t)
	counted.Rule.Count = 3
	late := tea(t)
	late.Start = lastBeginning - dayMinutes
	bad := tea(t)
	bad.Title = "\x7f"
	for i, c := range []struct {
		zones []impl.Zone
		event impl.Event
		at    int
		id    string
		ok    bool
	}{
		{zones, e, start + dayMinutes, "new", true}, {zones, e, start, "new", false}, {zones, e, start + 1, "new", false}, {zones, e, start + dayMinutes + 1, "new", false}, {zones, e, start - dayMinutes, "new", false},
		{zones, e, start + dayMinutes, "tea", false}, {zones, e, start + dayMinutes, "", false}, {zones, e, start + dayMinutes, "New", false}, {zones, e, start + dayMinutes, "abcdefgh", true}, {zones, e, start + dayMinutes, "abcdefghi", false}, {zones, e, start + dayMinutes, "te", true},
		{zones, once, start, "new", false}, {zones, once, start + dayMinutes, "new", false},
		{zones, counted, start + 2*dayMinutes, "new", true}, {zones, counted, start + 3*dayMinutes, "new", false},
		{zones, late, lastBeginning, "new", true}, {zones, late, lastBeginning + dayMinutes, "new", false},
		{zones, bad, start + dayMinutes, "new", false}, {nil, e, start + dayMinutes, "new", false}, {named("utc"), e, start + dayMinutes, "new", false}, {append(named("utc"), north(t)), e, start + dayMinutes, "new", false},
		{zones, e, start + 11000*dayMinutes, "new", true}, {zones, e, start + 11001*dayMinutes, "new", false}, {zones, e, math.MinInt, "new", false}, {zones, e, math.MaxInt, "new", false}, {zones, e, -1, "new", false},
	} {
		first, second, ok := impl.EventSplit(c.zones, c.event, c.at, c.id)
		if ok != c.ok || !ok && !(isNothing(first) && isNothing(second)) {
			t.Errorf("case %d: %v", i, ok)
		}
	}
}

// An event that is not ok, and zones that are not, have their fixed answers.
func TestEventWrong(t *testing.T) {
	zones := teaZones(t)
	at := tea(t).Start + dayMinutes
	o := impl.Over{At: at, Start: at, Long: 1}
	check := func(zones []impl.Zone, e impl.Event) {
		t.Helper()
		if impl.EventOk(zones, e) || len(impl.EventHits(zones, e, 0, impl.TimeMax)) != 0 {
			t.Errorf("%s: hits", eventAt(e))
		}
		if got, ok := impl.EventOut(zones, e, at); ok || !isNothing(got) {
			t.Errorf("%s: out %s", eventAt(e), eventAt(got))
		}
		if got, ok := impl.EventOver(zones, e, o); ok || !isNothing(got) {
			t.Errorf("%s: over %s", eventAt(e), eventAt(got))
		}
		if first, second, ok := impl.EventSplit(zones, e, at, "new"); ok || !isNothing(first) || !isNothing(second) {
			t.Errorf("%s: parted", eventAt(e))
		}
	}
	for _, bad := range [][]impl.Zone{nil, named("utc"), {zones[1], zones[0]}, {zones[0], zones[0]}, {zones[0], {Name: "utc", Shift: 1441}}, append(named("a", "b", "c", "d", "e", "f"), zones[0])} {
		check(bad, tea(t))
	}
	for i := range 9 {
		e := tea(t)
		switch i {
		case 0:
			e.Id = ""
		case 1:
			e.Title = "\x1f"
		case 2:
			e.Zone = "south"
		case 3:
			e.Start = 2879
		case 4:
			e.Long = 0
		case 5:
			e.Rule.Every = 0
		case 6:
			e.Outs = []int{at, at}
		case 7:
			e.Overs = []impl.Over{{At: at, Start: at, Long: 0}}
		case 8:
			e.Outs, e.Overs = []int{at}, []impl.Over{o}
		}
		check(zones, e)
	}
	for _, from := range wildInts {
		for _, to := range wildInts {
			hits := impl.EventHits(zones, tea(t), from, to)
			if (!isTime(from) || !isTime(to)) && len(hits) != 0 {
				t.Errorf("from %d to %d: %d", from, to, len(hits))
			}
		}
	}
}

// P52
func TestWithoutRuleOnce(t *testing.T) {
	rng := rand.New(rand.NewSource(52))
	for range 1000 {
		e := impl.Event{Id: "once", Title: someTitle(rng), Start: someBeginning(rng), Long: someLong(rng)}
		zones := someClocks(rng, e.Start)
		z := zones[rng.Intn(len(zones))]
		e.Zone = z.Name
		begin := slowWorld(z, e.Start, slowTimes(z, e.Start))
		want := []impl.Hit{{Id: e.Id, At: e.Start, From: begin, To: begin + e.Long, Title: e.Title}}
		for _, span := range [][2]int{{max(e.Start-3000, 0), e.Start + 3000}, {begin, begin + 1}, {0, impl.TimeMax}} {
			if got := impl.EventHits(zones, e, span[0], span[1]); !slices.Equal(got, want) {
				t.Fatalf("%s: %v", eventAt(e), got)
			}
		}
		if later := e.Start + 60000; isTime(later) && len(impl.EventHits(zones, e, later, impl.TimeMax)) != 0 {
			t.Fatalf("%s comes 60000 minutes later", eventAt(e))
		}
	}
}

// P53
func TestLongerTouchesAll(t *testing.T) {
	someEvents(t, 53, 400, func(rng *rand.Rand, zones []impl.Zone, e impl.Event, times []int) {
		if e.Long == 20160 {
			return
		}
		longer := copyEvent(e)
		longer.Long++
		for range 10 {
			from, to := someSpan(rng, zones, e, times)
			before, after := impl.EventHits(zones, e, from, to), impl.EventHits(zones, longer, from, to)
			if len(after) == 200 {
				continue
			}
			for _, hit := range before {
				if !slices.ContainsFunc(after, func(other impl.Hit) bool { return other.At == hit.At && other.From == hit.From }) {
					t.Fatalf("%s from %d to %d: %v is gone", eventAt(e), from, to, hit)
				}
			}
		}
	})
	zones, e := teaZones(t), tea(t)
	e.Rule = impl.Rule{}
	end := e.Start - 60 + 30
	if len(impl.EventHits(zones, e, end, end+9)) != 0 {
		t.Error("touches behind its end")
	}
	e.Long++
	if len(impl.EventHits(zones, e, end, end+9)) != 1 || len(impl.EventHits(zones, e, end+1, end+9)) != 0 {
		t.Error("a minute longer")
	}
}
