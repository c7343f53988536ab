package tests

import (
	"math"
	"slices"
	"strings"
	"testing"

	"loop.example/ephemeris/impl"
)

// The document's names, as they must stay.
var (
	_ func([]impl.Span, []impl.Span) []impl.Span                         = impl.SpansBoth
	_ func([]impl.Span, []impl.Span) []impl.Span                         = impl.SpansLess
	_ func([]impl.Zone, impl.Hours) bool                                 = impl.HoursOk
	_ func([]impl.Zone, impl.Hours, int, int) []impl.Span                = impl.HoursSpans
	_ func([]impl.Zone, []impl.Hours, [][]impl.Event, int, int, int) int = impl.SlotAll
	_ func([]impl.Span, int, int, int, int) []impl.Span                  = impl.SlotList
	_ func([]impl.Zone, impl.Event, []int, int, int) []impl.Ring         = impl.Rings
)

// wildHours are hours of all sorts, most of them not ok.
func wildHours() []impl.Hours {
	list := []impl.Hours{{}, {Zone: "utc"}, {Zone: "utc", To: 1}, {Zone: "utc", From: 0, To: 1440, Days: allWeek}}
	for _, n := range append([]int{6, 7, 1439}, wildInts...) {
		list = append(list, impl.Hours{Zone: "utc", From: n, To: 1440, Days: allWeek}, impl.Hours{Zone: "utc", From: 5, To: n, Days: allWeek}, impl.Hours{Zone: "utc", From: n, To: n, Days: allWeek}, impl.Hours{Zone: "utc", From: n, To: -n, Days: allWeek})
		list = append(list, impl.Hours{Zone: "utc", From: 5, To: 9, Days: []int{n}}, impl.Hours{Zone: "utc", From: 5, To: 9, Days: []int{0, n}}, impl.Hours{Zone: "utc", From: 5, To: 9, Days: []int{n, 6}})
	}
	for _, text := range []string{"", "\x00", "\xff", "é", "UTC", "south", strings.Repeat("a", 100000)} {
		list = append(list, impl.Hours{Zone: text, From: 5, To: 9, Days: allWeek})
	}
	for _, size := range []int{1, 2, 7, 8, 1000, 1000000} {
		list = append(list, impl.Hours{Zone: "utc", From: 5, To: 9, Days: make([]int, size)})
	}
	return list
}

func TestHoursNeverPanic(t *testing.T) {
	zones := teaZones(t)
	numbers := append([]int{1000000, 1000001, 1144000, 1144001}, wildInts...)
	for _, h := range wildHours() {
		ok := slowHoursOk(zones, h)
		checkHoursOk(t, zones, h, ok)
		for _, from := range numbers {
			for _, to := range numbers {
				got := impl.HoursSpans(zones, h, from, to)
				if want := slowHours(zones, h, from, to); !slices.Equal(got, want) {
					t.Fatalf("%s from %d to %d: %v, not %v", hoursAt(h), from, to, got, want)
				}
			}
		}
	}
	for _, bad := range [][]impl.Zone{nil, {}, make([]impl.Zone, 6), make([]impl.Zone, 1000000)} {
		checkHoursOk(t, bad, utcDays(5, 9), false)
	}
	for _, z := range wildZones() {
		h := utcDays(0, 1440)
		h.Zone = z.Name
		for _, at := range []int{0, 1000000, impl.TimeMax - 5000} {
			got := impl.HoursSpans([]impl.Zone{z}, h, at, at+5000)
			if (len(got) > 0) != slowZoneOk(z) || !slices.Equal(got, slowHours([]impl.Zone{z}, h, at, at+5000)) {
				t.Fatalf("%v at %d: %v", z, at, got)
			}
		}
	}
}

func TestTwoNeverPanic(t *testing.T) {
	wild := wildSpans()
	for i, s := range wild {
		other := wild[(i*7+3)%len(wild)]
		checkTwo(t, []impl.Span{s}, []impl.Span{other})
		checkTwo(t, []impl.Span{s, other}, spansOf(0, lastEnd))
		checkTwo(t, spansOf(0, lastEnd), []impl.Span{other, s})
		for _, most := range []int{math.MinInt, -1, 0, 1, 40, 41, math.MaxInt} {
			for _, long := range []int{s.From, s.To, 1} {
				got := impl.SlotList([]impl.Span{s}, other.From, other.To, long, most)
				if len(got) > 0 && (most < 1 || most > 40 || !impl.SpansOk([]impl.Span{s})) || len(got) > max(most, 0) {
					t.Fatalf("%v from %d to %d, %d long, %d: %v", s, other.From, other.To, long, most, got)
				}
			}
		}
	}
	impl.SlotList(make([]impl.Span, 1000000), 0, impl.TimeMax, 1, 40)
	impl.SlotList(row(1000000, 2), 0, impl.TimeMax, 1, 40)
}

func TestSlotAllNeverPanics(t *testing.T) {
	zones, wild, hours := teaZones(t), wildEvents(t), wildHours()
	start := tea(t).Start
	for _, from := range append([]int{start}, wildInts...) {
		for _, to := range append([]int{start + 2000}, wildInts...) {
			for _, long := range []int{math.MinInt, 0, 1, 20160, 20161, math.MaxInt} {
				got := impl.SlotAll(zones, []impl.Hours{utcDays(0, 1440)}, [][]impl.Event{{tea(t)}}, from, to, long)
				if got >= 0 && (!slowMayPlan(from, to) || got < from || got+long > to) || got < -1 {
					t.Fatalf("%d to %d, %d long: %d", from, to, long, got)
				}
			}
		}
	}
	for i, h := range hours {
		people := []impl.Hours{utcDays(0, 1440), h}
		ok := slowHoursOk(zones, h) && len(slowHours(zones, h, start, start+20000)) > 0
		if got := impl.SlotAll(zones, people, make([][]impl.Event, 2), start, start+20000, 1); (got >= 0) != ok {
			t.Fatalf("hours %d: %d", i, got)
		}
	}
	for _, e := range wild {
		got := impl.SlotAll(zones, []impl.Hours{utcDays(0, 1440)}, [][]impl.Event{{e}}, start, start+20000, 1)
		if busy := impl.BusyOf(zones, []impl.Event{e}, start, start+20000); got != impl.SlotFirst(busy, start, start+20000, 1) {
			t.Fatalf("%s: %d", eventAt(e), got)
		}
	}
	for _, size := range []int{5, 1000, 1000000} {
		impl.SlotAll(zones, make([]impl.Hours, size), make([][]impl.Event, size), 0, 100, 1)
		impl.SlotAll(zones, slices.Repeat([]impl.Hours{utcDays(0, 1440)}, size), make([][]impl.Event, size), 0, 100, 1)
		impl.SlotAll(zones, []impl.Hours{utcDays(0, 1440)}, make([][]impl.Event, size), 0, 100, 1)
		impl.SlotAll(make([]impl.Zone, size), []impl.Hours{utcDays(0, 1440)}, make([][]impl.Event, 1), 0, 100, 1)
	}
	if got := impl.SlotAll(zones, []impl.Hours{utcDays(0, 1440)}, [][]impl.Event{make([]impl.Event, 100000)}, start, start+100, 1); got != start {
		t.Error(got)
	}
}

func TestRingsNeverPanic(t *testing.T) {
	zones := teaZones(t)
	start := tea(t).Start
	numbers := []int{math.MinInt, -1, 0, 2880, start - 40320, start, start + 144000, lastBeginning, impl.TimeMax - 40320, impl.TimeMax, impl.TimeMax + 1, math.MaxInt}
	lists := [][]int{nil, {0}, {40320, 0, 40320}, {40321}, {-1}, {math.MinInt}, {math.MaxInt}, {0, 1, 2, 3}, {0, 1, 2, 3, 4}}
	for _, e := range wildEvents(t) {
		ok := slowEventOk(zones, e)
		for i, from := range numbers {
			for k, to := range numbers {
				ahead := lists[(i+k)%len(lists)]
				got := impl.Rings(zones, e, ahead, from, to)
				if len(got) > 0 && (!ok || !slowAheadOk(ahead) || !slowMayPlan(from, to)) {
					t.Fatalf("%s, %v ahead, from %d to %d: %v", eventAt(e), ahead, from, to, got)
				}
			}
		}
	}
	for _, z := range wildZones() {
		e := tea(t)
		e.Zone = z.Name
		if got := impl.Rings([]impl.Zone{z}, e, []int{0, 5}, start-3000, start+3000); (len(got) > 0) != slowZoneOk(z) {
			t.Fatalf("%v: %v", z, got)
		}
	}
	for _, r := range wildRules() {
		e := tea(t)
		e.Rule = r
		if got := impl.Rings(zones, e, []int{0, 5}, start-3000, start+3000); len(got) > 0 && !slowEventOk(zones, e) {
			t.Fatalf("%+v: %v", r, got)
		}
	}
	impl.Rings(zones, tea(t), make([]int, 1000000), start, start+100)
	impl.Rings(make([]impl.Zone, 1000000), tea(t), nil, start, start+100)
}

// roomyPeople are people that can, all of whose lists have something behind their ends, and some share their memory.
func roomyPeople(t *testing.T) ([]impl.Zone, []impl.Hours, [][]impl.Event) {
	t.Helper()
	zones, e, _ := roomyEvent(t)
	days := []int{0, 1, 2, 3, 4, 5, 6, 777}
	hours := []impl.Hours{{Zone: "north", From: 480, To: 1440, Days: days[:7]}, {Zone: "utc", From: 0, To: 1320, Days: days[:5]}, {Zone: "utc", From: 0, To: 1440, Days: days[1:7]}, {Zone: "bad", From: -7, Days: days}, {Zone: "bad"}}
	all := []impl.Event{e, tea(t), {Id: "bad", Outs: e.Outs}, e}
	events := [][]impl.Event{all[:2], all[1:2], all[:1], all, nil}
	return zones, hours[:3], events[:3]
}

// Nothing is written into an argument, or behind its end, and what goroutines work out is the same each time.
func TestSlotAllIsTheSame(t *testing.T) {
	zones, hours, events := roomyPeople(t)
	start := tea(t).Start
	before := wholeText(zones) + wholeText(hours) + wholeText(events)
	for _, long := range []int{1, 30, 60, 720, 800, 2000} {
		want := impl.SlotAll(zones, hours, events, start, start+20000, long)
		if (want >= 0) != (long <= 800) {
			t.Fatal(long, want)
		}
		for range 200 {
			if got := impl.SlotAll(zones, hours, events, start, start+20000, long); got != want {
				t.Fatalf("%d long: %d, and then %d", long, want, got)
			}
		}
	}
	if after := wholeText(zones) + wholeText(hours) + wholeText(events); after != before {
		t.Errorf("changed:\n%s\n%s", before, after)
	}
}

func TestPlansAreNew(t *testing.T) {
	zones, hours, events := roomyPeople(t)
	e := events[2][0]
	start := e.Start
	list, whole := roomySpans(row(300, 20))
	other, otherWhole := roomySpans(spansOf(5, 30, 50, 3000))
	wholeAhead := []int{0, 60, 60, 1440, 777, -7}
	ahead := wholeAhead[:4]
	before := wholeText(zones) + wholeText(hours) + wholeText(events) + wholeText(whole) + wholeText(otherWhole) + wholeText(wholeAhead)
	for i, call := range []func() any{
		func() any { return impl.SpansBoth(list, other) },
		func() any { return impl.SpansBoth(other, other) },
		func() any { return impl.SpansLess(list, other) },
		func() any { return impl.SpansLess(other, nil) },
		func() any { return impl.HoursSpans(zones, hours[0], start, start+20000) },
		func() any { return impl.HoursSpans(zones, hours[1], start, start+20000) },
		func() any { return impl.SlotList(other, 0, 4000, 10, 30) },
		func() any { return impl.SlotList(list, 0, 4000, 19, 40) },
		func() any { return impl.Rings(zones, e, ahead, start, start+40000) },
	} {
		one, two := call(), call()
		text := wholeText(two)
		if size := strings.Count(text, "{"); size < 2 {
			t.Fatalf("call %d: %s", i, text)
		}
		checkApart(t, one, zones, hours, events, whole, otherWhole, wholeAhead, two)
		scribbleAny(one)
		if wholeText(two) != text || wholeText(call()) != text {
			t.Errorf("call %d: shared, or kept", i)
		}
		if after := wholeText(zones) + wholeText(hours) + wholeText(events) + wholeText(whole) + wholeText(otherWhole) + wholeText(wholeAhead); after != before {
			t.Fatalf("call %d changed:\n%s\n%s", i, before, after)
		}
	}
}

// The empty lists and none at all are the same.
func TestPlanEmptyIsNil(t *testing.T) {
	zones := teaZones(t)
	none, empty := impl.Hours{Zone: "utc", From: 5, To: 9}, impl.Hours{Zone: "utc", From: 5, To: 9, Days: []int{}}
	if !impl.HoursOk(zones, none) || !impl.HoursOk(zones, empty) || len(impl.HoursSpans(zones, none, 0, 9000))+len(impl.HoursSpans(zones, empty, 0, 9000)) != 0 {
		t.Error("hours")
	}
	a := impl.SlotAll(zones, []impl.Hours{utcDays(5, 9)}, [][]impl.Event{nil}, 5000, 9000, 1)
	b := impl.SlotAll(zones, []impl.Hours{utcDays(5, 9)}, [][]impl.Event{{}}, 5000, 9000, 1)
	if a != b || a < 0 {
		t.Error(a, b)
	}
	if got := impl.SlotList([]impl.Span{}, 0, 9, 5, 2); !slices.Equal(got, spansOf(0, 5)) || !slices.Equal(impl.SlotList(nil, 0, 9, 5, 2), got) {
		t.Error(got)
	}
	if len(impl.Rings(zones, tea(t), nil, 0, 9))+len(impl.Rings(zones, tea(t), []int{}, 0, 9)) != 0 {
		t.Error("rings")
	}
}
