package tests

import (
	"fmt"
	"math"
	"math/rand"
	"slices"
	"strings"
	"testing"

	"loop.example/ephemeris/impl"
)

func TestPlanLimits(t *testing.T) {
	if impl.AlarmMax != 4 || impl.PeopleMax != 4 {
		t.Error(impl.AlarmMax, impl.PeopleMax)
	}
}

// checkTwo holds SpansBoth and SpansLess against the long way, and their sizes against each other.
func checkTwo(t *testing.T, a []impl.Span, b []impl.Span) {
	t.Helper()
	both, less := impl.SpansBoth(a, b), impl.SpansLess(a, b)
	if !slices.Equal(both, slowBoth(a, b)) || !slices.Equal(less, slowLess(a, b)) {
		t.Fatalf("%v and %v: both %v, less %v", a, b, both, less)
	}
	if !slowSpansOk(a) || !slowSpansOk(b) {
		if len(both)+len(less) != 0 {
			t.Fatalf("%v and %v: both %v, less %v", a, b, both, less)
		}
		return
	}
	if other := impl.SpansBoth(b, a); !slices.Equal(other, both) {
		t.Fatalf("%v and %v: %v, the other way round %v", a, b, both, other)
	}
	size := 0
	for _, s := range append(slices.Clone(both), less...) {
		size += s.To - s.From
	}
	if size != impl.SpanSize(a) {
		t.Fatalf("%v and %v: both %v, less %v", a, b, both, less)
	}
}

// Each list that is ok is a set of minutes: all sets of eight minutes with all others.
func TestTwoOfAllSmall(t *testing.T) {
	for a := range 256 {
		for b := range 256 {
			x, y := bitSpans(a), bitSpans(b)
			if both, less := impl.SpansBoth(x, y), impl.SpansLess(x, y); !slices.Equal(both, bitSpans(a&b)) || !slices.Equal(less, bitSpans(a&^b)) {
				t.Fatalf("%v and %v: both %v, less %v", x, y, both, less)
			}
		}
	}
}

func TestTwoExamples(t *testing.T) {
	end := lastEnd
	for _, c := range []struct{ a, b, both, less []impl.Span }{
		{spansOf(0, 10, 20, 30), spansOf(5, 25, 28, 40), spansOf(5, 10, 20, 25, 28, 30), spansOf(0, 5, 25, 28)},
		{spansOf(5, 25, 28, 40), spansOf(0, 10, 20, 30), spansOf(5, 10, 20, 25, 28, 30), spansOf(10, 20, 30, 40)},
		{nil, nil, nil, nil}, {spansOf(1, 2), nil, nil, spansOf(1, 2)}, {nil, spansOf(1, 2), nil, nil}, {[]impl.Span{}, spansOf(1, 2), nil, nil},
		{spansOf(1, 9), spansOf(1, 9), spansOf(1, 9), nil}, {spansOf(1, 9), spansOf(3, 5), spansOf(3, 5), spansOf(1, 3, 5, 9)}, {spansOf(3, 5), spansOf(1, 9), spansOf(3, 5), nil},
		{spansOf(1, 5), spansOf(5, 9), nil, spansOf(1, 5)}, {spansOf(5, 9), spansOf(1, 5), nil, spansOf(5, 9)}, {spansOf(1, 5), spansOf(6, 9), nil, spansOf(1, 5)}, {spansOf(1, 5), spansOf(4, 9), spansOf(4, 5), spansOf(1, 4)},
		{spansOf(1, 5), spansOf(1, 3), spansOf(1, 3), spansOf(3, 5)}, {spansOf(1, 5), spansOf(3, 5), spansOf(3, 5), spansOf(1, 3)}, {spansOf(1, 5, 7, 9), spansOf(5, 7), nil, spansOf(1, 5, 7, 9)}, {spansOf(1, 5, 7, 9), spansOf(4, 8), spansOf(4, 5, 7, 8), spansOf(1, 4, 8, 9)},
		{spansOf(0, end), spansOf(0, end), spansOf(0, end), nil}, {spansOf(0, end), spansOf(0, 1), spansOf(0, 1), spansOf(1, end)}, {spansOf(0, end), spansOf(impl.TimeMax, end), spansOf(impl.TimeMax, end), spansOf(0, impl.TimeMax)}, {spansOf(impl.TimeMax, end), spansOf(0, impl.TimeMax), nil, spansOf(impl.TimeMax, end)},
		{spansOf(0, end+1), spansOf(1, 2), nil, nil}, {spansOf(1, 2), spansOf(0, end+1), nil, nil}, {spansOf(1, 2, 2, 3), spansOf(1, 2), nil, nil}, {spansOf(1, 2), spansOf(1, 2, 2, 3), nil, nil}, {spansOf(1, 9), spansOf(3, 3), nil, nil}, {spansOf(3, 3), spansOf(1, 9), nil, nil},
		{spansOf(5, 6, 1, 2), spansOf(1, 2), nil, nil}, {spansOf(1, 9), spansOf(5, 6, 1, 2), nil, nil}, {spansOf(1, 9), spansOf(-1, 2), nil, nil}, {spansOf(1, 9), spansOf(7, 2), nil, nil},
	} {
		checkTwo(t, c.a, c.b)
		if both, less := impl.SpansBoth(c.a, c.b), impl.SpansLess(c.a, c.b); !slices.Equal(both, c.both) || !slices.Equal(less, c.less) {
			t.Errorf("%v and %v: both %v, less %v", c.a, c.b, both, less)
		}
	}
}

// Lists of SpanMax and one more; what both have, or only one, may be more spans than these.
func TestTwoOfMany(t *testing.T) {
	wide := row(300, 10)
	for i := range wide {
		wide[i].To += 5
	}
	shifted := slices.Clone(wide)
	for i := range shifted {
		shifted[i].From += 5
		shifted[i].To = shifted[i].From + 7
	}
	checkTwo(t, wide, shifted)
	if both, less := impl.SpansBoth(wide, shifted), impl.SpansLess(wide, shifted); len(both) != 599 || len(less) != 300 {
		t.Errorf("%d %d", len(both), len(less))
	}
	if less := impl.SpansLess(spansOf(0, 100000), shifted); len(less) != 301 {
		t.Errorf("%d", len(less))
	}
	for _, list := range [][]impl.Span{row(301, 10), row(100000, 2), make([]impl.Span, 100000)} {
		checkTwo(t, list, wide)
		checkTwo(t, wide, list)
	}
}

func TestTwoOfAllSorts(t *testing.T) {
	rng := rand.New(rand.NewSource(91))
	several := 0
	for i := range 6000 {
		around := someAround(rng)
		a, b := someSpans(rng, rng.Intn(12), around), someSpans(rng, rng.Intn(12), around)
		if i%10 > 0 {
			a = impl.Busy(a)
		}
		if i%10 > 1 {
			b = impl.Busy(b)
		}
		checkTwo(t, a, b)
		if len(impl.SpansBoth(a, b)) > 1 && len(impl.SpansLess(a, b)) > 1 {
			several++
		}
	}
	if several < 300 {
		t.Error(several)
	}
}

func checkHoursOk(t *testing.T, zones []impl.Zone, h impl.Hours, want bool) {
	t.Helper()
	if impl.HoursOk(zones, h) != want || slowHoursOk(zones, h) != want {
		t.Errorf("%s: %v, the long way %v", hoursAt(h), impl.HoursOk(zones, h), slowHoursOk(zones, h))
	}
	spans := impl.HoursSpans(zones, h, 1000000, 1100000)
	if slot := impl.SlotAll(zones, []impl.Hours{h}, make([][]impl.Event, 1), 1000000, 1100000, 1); (slot >= 0) != (len(spans) > 0) || !want && len(spans) > 0 {
		t.Errorf("%s: %v %d", hoursAt(h), spans, slot)
	}
}

func TestHoursOk(t *testing.T) {
	zones := teaZones(t)
	for _, c := range []struct {
		zone     string
		from, to int
		days     []int
		ok       bool
	}{
		{"utc", 540, 1020, []int{0, 2}, true}, {"north", 540, 1020, []int{0, 2}, true}, {"", 540, 1020, []int{0}, false}, {"south", 540, 1020, []int{0}, false}, {"Utc", 540, 1020, []int{0}, false}, {"ut", 540, 1020, []int{0}, false},
		{"utc", 0, 1440, allWeek, true}, {"utc", 0, 1, allWeek, true}, {"utc", 1439, 1440, allWeek, true}, {"utc", 1440, 1441, allWeek, false}, {"utc", 1440, 1440, allWeek, false}, {"utc", 1439, 1441, allWeek, false}, {"utc", 0, 1441, allWeek, false}, {"utc", -1, 1440, allWeek, false}, {"utc", -1, 0, allWeek, false},
		{"utc", 5, 5, allWeek, false}, {"utc", 5, 4, allWeek, false}, {"utc", 5, 6, allWeek, true}, {"utc", 0, 0, allWeek, false}, {"utc", 1439, 1439, allWeek, false}, {"utc", 1439, 0, allWeek, false}, {"utc", math.MinInt, math.MaxInt, allWeek, false}, {"utc", math.MinInt, 5, allWeek, false}, {"utc", 5, math.MaxInt, allWeek, false}, {"utc", 5, math.MinInt, allWeek, false}, {"utc", math.MaxInt, math.MinInt, allWeek, false},
		{"utc", 5, 9, nil, true}, {"utc", 5, 9, []int{}, true}, {"utc", 5, 9, []int{0}, true}, {"utc", 5, 9, []int{6}, true}, {"utc", 5, 9, []int{7}, false}, {"utc", 5, 9, []int{-1}, false}, {"utc", 5, 9, []int{0, 6}, true}, {"utc", 5, 9, []int{6, 0}, false}, {"utc", 5, 9, []int{3, 3}, false}, {"utc", 5, 9, []int{0, 1, 1}, false}, {"utc", 5, 9, []int{1, 3, 2}, false},
		{"utc", 5, 9, []int{-1, 0, 1}, false}, {"utc", 5, 9, []int{0, 1, 2, 3, 4, 5, 6, 7}, false}, {"utc", 5, 9, []int{math.MinInt}, false}, {"utc", 5, 9, []int{math.MaxInt}, false}, {"utc", 5, 9, []int{0, math.MaxInt}, false}, {"utc", 5, 9, make([]int, 100000), false}, {"utc", 5, 9, []int{0, 7}, false}, {"utc", 5, 9, []int{-1, 6}, false},
	} {
		checkHoursOk(t, zones, impl.Hours{Zone: c.zone, From: c.from, To: c.to, Days: c.days}, c.ok)
	}
	h := impl.Hours{Zone: "utc", From: 5, To: 9, Days: allWeek}
	for i, bad := range [][]impl.Zone{nil, {}, named("utd"), named("utc", "utc"), named("utc", "a"), named("a", "b", "c", "d", "e", "f", "utc"), {{Name: "a", Shift: 1441}, {Name: "utc"}}, make([]impl.Zone, 7)} {
		if impl.HoursOk(bad, h) || slowHoursOk(bad, h) {
			t.Errorf("zones %d", i)
		}
		checkHoursOk(t, bad, h, false)
	}
	for _, z := range wildZones() {
		h.Zone = z.Name
		if ok := impl.HoursOk([]impl.Zone{z}, h); ok != slowZoneOk(z) {
			t.Fatalf("%v: %v", z, ok)
		}
	}
}

// stretch is spans by dates, with blanks between.
func stretch(t *testing.T, text string) []impl.Span {
	t.Helper()
	var times []int
	for _, word := range strings.Fields(text) {
		times = append(times, mustTime(t, word))
	}
	return spansOf(times...)
}

func checkHours(t *testing.T, zones []impl.Zone, h impl.Hours, from int, to int, want []impl.Span) {
	t.Helper()
	if got := impl.HoursSpans(zones, h, from, to); !slices.Equal(got, want) {
		t.Errorf("%s from %d to %d: %v, not %v", hoursAt(h), from, to, got, want)
	}
	if got := slowHours(zones, h, from, to); !slices.Equal(got, want) {
		t.Errorf("%s from %d to %d: the long way %v, not %v", hoursAt(h), from, to, got, want)
	}
}

// By dates, in a week without a turn: the days of the week, hours that touch midnight, and what is cut.
func TestHoursExamples(t *testing.T) {
	zones := teaZones(t)
	monday := mustTime(t, "2026-01-05T00:00")
	for _, c := range []struct {
		h        impl.Hours
		from, to int
		want     []impl.Span
	}{
		{impl.Hours{Zone: "north", From: 540, To: 1020, Days: []int{0, 2}}, 0, 4320, spansOf(480, 960, 3360, 3840)},
		{impl.Hours{Zone: "north", From: 540, To: 1020, Days: []int{0, 2}}, 0, 10080, spansOf(480, 960, 3360, 3840)}, {impl.Hours{Zone: "utc", From: 540, To: 1020, Days: []int{0}}, 0, 10080 + 541, spansOf(540, 1020, 10620, 10621)},
		{impl.Hours{Zone: "utc", From: 540, To: 1020, Days: []int{0}}, 540, 1020, spansOf(540, 1020)}, {impl.Hours{Zone: "utc", From: 540, To: 1020, Days: []int{0}}, 541, 1019, spansOf(541, 1019)}, {impl.Hours{Zone: "utc", From: 540, To: 1020, Days: []int{0}}, 0, 541, spansOf(540, 541)}, {impl.Hours{Zone: "utc", From: 540, To: 1020, Days: []int{0}}, 0, 540, nil}, {impl.Hours{Zone: "utc", From: 540, To: 1020, Days: []int{0}}, 1019, 2000, spansOf(1019, 1020)}, {impl.Hours{Zone: "utc", From: 540, To: 1020, Days: []int{0}}, 1020, 2000, nil},
		{impl.Hours{Zone: "utc", From: 540, To: 1020, Days: []int{0}}, 700, 700, nil}, {impl.Hours{Zone: "utc", From: 540, To: 1020, Days: []int{0}}, 700, 701, spansOf(700, 701)}, {impl.Hours{Zone: "utc", From: 540, To: 1020, Days: []int{0}}, 701, 700, nil}, {impl.Hours{Zone: "utc", From: 540, To: 1020}, 0, 10080, nil}, {impl.Hours{Zone: "utc", From: 540, To: 1020, Days: []int{}}, 0, 10080, nil},
		{impl.Hours{Zone: "utc", From: 0, To: 1440, Days: allWeek}, 0, 10080, spansOf(0, 10080)}, {impl.Hours{Zone: "north", From: 0, To: 1440, Days: allWeek}, 0, 10080, spansOf(0, 10080)}, {impl.Hours{Zone: "utc", From: 0, To: 1440, Days: []int{0, 1, 3}}, 0, 10080, spansOf(0, 2880, 4320, 5760)}, {impl.Hours{Zone: "north", From: 0, To: 1440, Days: []int{0}}, 0, 1440, spansOf(0, 1380)}, {impl.Hours{Zone: "north", From: 0, To: 1440, Days: []int{6}}, 0, 10080, spansOf(8580, 10020)}, {impl.Hours{Zone: "north", From: 0, To: 1440, Days: []int{0}}, 0, 10080, spansOf(0, 1380, 10020, 10080)},
		{impl.Hours{Zone: "utc", From: 0, To: 1439, Days: []int{0, 1}}, 0, 10080, spansOf(0, 1439, 1440, 2879)}, {impl.Hours{Zone: "utc", From: 1, To: 1440, Days: []int{0, 1}}, 0, 10080, spansOf(1, 1440, 1441, 2880)}, {impl.Hours{Zone: "utc", From: 1439, To: 1440, Days: []int{0, 6}}, 0, 10080, spansOf(1439, 1440, 10079, 10080)}, {impl.Hours{Zone: "utc", From: 0, To: 1, Days: []int{0, 6}}, 0, 10080, spansOf(0, 1, 8640, 8641)},
	} {
		want := slices.Clone(c.want)
		for i := range want {
			want[i].From += monday
			want[i].To += monday
		}
		checkHours(t, zones, c.h, monday+c.from, monday+c.to, want)
	}
}

// A clock that turns within hours, at their beginning, at their end, ahead of them, and behind them; on the turning Sunday alone.
func TestHoursThatTurn(t *testing.T) {
	zones := teaZones(t)
	for _, c := range []struct {
		day      string
		from, to int
		want     string
	}{
		{"2026-03-29", 0, 1440, "2026-03-28T23:00 2026-03-29T22:00"}, {"2026-03-29", 0, 60, "2026-03-28T23:00 2026-03-29T00:00"}, {"2026-03-29", 60, 120, "2026-03-29T00:00 2026-03-29T01:00"}, {"2026-03-29", 60, 121, "2026-03-29T00:00 2026-03-29T01:01"}, {"2026-03-29", 60, 179, "2026-03-29T00:00 2026-03-29T01:59"}, {"2026-03-29", 60, 180, "2026-03-29T00:00 2026-03-29T01:00"},
		{"2026-03-29", 120, 180, ""}, {"2026-03-29", 120, 181, "2026-03-29T01:00 2026-03-29T01:01"}, {"2026-03-29", 120, 150, "2026-03-29T01:00 2026-03-29T01:30"}, {"2026-03-29", 120, 179, "2026-03-29T01:00 2026-03-29T01:59"}, {"2026-03-29", 121, 180, ""}, {"2026-03-29", 150, 190, ""}, {"2026-03-29", 150, 210, ""}, {"2026-03-29", 150, 211, "2026-03-29T01:30 2026-03-29T01:31"}, {"2026-03-29", 179, 180, ""}, {"2026-03-29", 179, 239, ""}, {"2026-03-29", 179, 240, "2026-03-29T01:59 2026-03-29T02:00"},
		{"2026-03-29", 180, 240, "2026-03-29T01:00 2026-03-29T02:00"}, {"2026-03-29", 119, 120, "2026-03-29T00:59 2026-03-29T01:00"}, {"2026-03-29", 119, 180, "2026-03-29T00:59 2026-03-29T01:00"}, {"2026-03-29", 540, 1440, "2026-03-29T07:00 2026-03-29T22:00"},
		{"2026-10-25", 0, 1440, "2026-10-24T22:00 2026-10-25T23:00"}, {"2026-10-25", 60, 120, "2026-10-24T23:00 2026-10-25T00:00"}, {"2026-10-25", 120, 180, "2026-10-25T00:00 2026-10-25T02:00"}, {"2026-10-25", 120, 179, "2026-10-25T00:00 2026-10-25T00:59"}, {"2026-10-25", 150, 165, "2026-10-25T00:30 2026-10-25T00:45"}, {"2026-10-25", 150, 210, "2026-10-25T00:30 2026-10-25T02:30"}, {"2026-10-25", 179, 180, "2026-10-25T00:59 2026-10-25T02:00"}, {"2026-10-25", 60, 180, "2026-10-24T23:00 2026-10-25T02:00"}, {"2026-10-25", 180, 240, "2026-10-25T02:00 2026-10-25T03:00"}, {"2026-10-25", 119, 121, "2026-10-24T23:59 2026-10-25T00:01"},
	} {
		day := mustTime(t, c.day+"T00:00")
		checkHours(t, zones, impl.Hours{Zone: "north", From: c.from, To: c.to, Days: []int{6}}, day-3000, day+3000, stretch(t, c.want))
	}
	h := impl.Hours{Zone: "north", From: 120, To: 1440, Days: allWeek}
	day := mustTime(t, "2026-03-29T00:00")
	checkHours(t, zones, h, day-1440, day+1440, stretch(t, "2026-03-28T01:00 2026-03-28T23:00 2026-03-29T01:00 2026-03-29T22:00"))
	checkHours(t, zones, h, day+30, day+61, stretch(t, "2026-03-29T01:00 2026-03-29T01:01"))
}

// Clocks that jump by two days, where the hours of one day come behind, or within, those of others.
func TestHoursThatJump(t *testing.T) {
	sunday := mustTime(t, "2026-03-29T00:00")
	for _, h := range []impl.Hours{{From: 0, To: 1440}, {From: 540, To: 1020}, {From: 0, To: 600}, {From: 1439, To: 1440}, {From: 300, To: 1440}} {
		for _, shifts := range [][2]int{{-1440, 1440}, {1440, -1440}, {0, 1440}, {1440, 0}, {-700, 700}, {-1, 1}} {
			for _, at := range []int{0, 1, 539, 540, 541, 700, 1020, 1439} {
				for _, days := range [][]int{allWeek, {6}, {0}, {1}, {5}, {0, 5}} {
					h.Zone, h.Days = "z", days
					zones := []impl.Zone{{Name: "z", Shift: shifts[0], Turns: []impl.Turn{{At: sunday + at, Shift: shifts[1]}}}}
					for _, span := range [][2]int{{-9000, 9000}, {0, 1440}, {at, at + 1}, {at - 1, at}, {at, 9000}, {-9000, at}} {
						from, to := sunday+span[0], sunday+span[1]
						if got, want := impl.HoursSpans(zones, h, from, to), slowHours(zones, h, from, to); !slices.Equal(got, want) || !slowSpansOk(got) {
							t.Fatalf("%s, %v at %d, from %d to %d: %v, not %v", hoursAt(h), shifts, at, span[0], span[1], got, want)
						}
					}
				}
			}
		}
	}
	zones := []impl.Zone{{Name: "z", Shift: -1440, Turns: []impl.Turn{{At: sunday, Shift: 1440}}}}
	checkHours(t, zones, impl.Hours{Zone: "z", From: 0, To: 1440, Days: []int{6}}, sunday-3000, sunday+3000, nil)
	checkHours(t, zones, impl.Hours{Zone: "z", From: 0, To: 720, Days: []int{5}}, sunday-3000, sunday+3000, spansOf(sunday, sunday+720))
	checkHours(t, zones, impl.Hours{Zone: "z", From: 0, To: 720, Days: []int{0, 5}}, sunday-3000, sunday+3000, spansOf(sunday, sunday+720))
}

// Days ahead of 2, and behind DayMax - 2, have no hours, whatever the clock shows.
func TestHoursAtTheEnds(t *testing.T) {
	last := (impl.DayMax - 1) * dayMinutes
	for _, shift := range []int{-1440, -1, 0, 1, 1440} {
		zones := []impl.Zone{{Name: "z", Shift: shift}}
		h := impl.Hours{Zone: "z", From: 0, To: 1440, Days: allWeek}
		checkHours(t, zones, h, 0, 20000, spansOf(2880-shift, 20000))
		checkHours(t, zones, h, impl.TimeMax-20000, impl.TimeMax, spansOf(impl.TimeMax-20000, last-shift))
		checkHours(t, zones, h, 0, 2880-shift, nil)
		checkHours(t, zones, h, 0, 2881-shift, spansOf(2880-shift, 2881-shift))
		checkHours(t, zones, h, last-shift, impl.TimeMax, nil)
		checkHours(t, zones, h, last-shift-1, impl.TimeMax, spansOf(last-shift-1, last-shift))
		h.From, h.To = 600, 660
		first := impl.WeekDay(2)
		h.Days = []int{first}
		checkHours(t, zones, h, 0, 10000, spansOf(3480-shift, 3540-shift))
		h.Days = []int{impl.WeekDay(1)}
		checkHours(t, zones, h, 0, 10000, nil)
		h.Days = []int{impl.WeekDay(impl.DayMax - 2)}
		checkHours(t, zones, h, impl.TimeMax-10000, impl.TimeMax, spansOf(last-840-shift, last-780-shift))
		h.Days = []int{impl.WeekDay(impl.DayMax - 1)}
		checkHours(t, zones, h, impl.TimeMax-10000, impl.TimeMax, nil)
	}
	for _, turns := range [][]impl.Turn{{{At: 0, Shift: 1440}}, {{At: 2880, Shift: 1440}}, {{At: 1440, Shift: -1440}}, {{At: impl.TimeMax, Shift: -1440}}, {{At: impl.TimeMax - 1440, Shift: -1440}}, {{At: impl.TimeMax - 2880, Shift: 1440}}, {{At: 0, Shift: -1440}, {At: impl.TimeMax, Shift: 1440}}} {
		for _, shift := range []int{-1440, 0, 1440} {
			zones := []impl.Zone{{Name: "z", Shift: shift, Turns: turns}}
			for _, h := range []impl.Hours{{Zone: "z", From: 0, To: 1440, Days: allWeek}, {Zone: "z", From: 700, To: 710, Days: allWeek}, {Zone: "z", From: 0, To: 1, Days: allWeek}} {
				checkHours(t, zones, h, 0, 10000, slowHours(zones, h, 0, 10000))
				checkHours(t, zones, h, impl.TimeMax-10000, impl.TimeMax, slowHours(zones, h, impl.TimeMax-10000, impl.TimeMax))
			}
		}
	}
}

// planEdges is spans at the edges of what may be asked, and whether they may be.
var planEdges = []struct {
	from, to int
	ok       bool
}{
	{1000000, 1144000, true}, {1000000, 1144001, false}, {1000001, 1144001, true}, {1000000, 1000000, true}, {1000000, 999999, false}, {1000000, 1000001, true}, {0, 144000, true}, {0, 144001, false}, {0, 0, true}, {-1, 100, false}, {-1, -1, false},
	{impl.TimeMax - 144000, impl.TimeMax, true}, {impl.TimeMax - 144001, impl.TimeMax, false}, {impl.TimeMax, impl.TimeMax, true}, {impl.TimeMax, impl.TimeMax + 1, false}, {impl.TimeMax + 1, impl.TimeMax + 1, false}, {impl.TimeMax - 10, impl.TimeMax + 1, false},
	{0, impl.TimeMax, false}, {impl.TimeMax, 0, false}, {math.MinInt, math.MaxInt, false}, {math.MaxInt, math.MinInt, false}, {math.MinInt, math.MinInt, false}, {math.MaxInt, math.MaxInt, false}, {math.MinInt, 0, false}, {0, math.MaxInt, false}, {math.MinInt, 100, false}, {math.MaxInt - 100, math.MaxInt, false},
}

// Which spans may be asked: of HoursSpans, of SlotAll, and of Rings.
func TestPlanEdges(t *testing.T) {
	zones := named("utc")
	h := impl.Hours{Zone: "utc", From: 0, To: 1440, Days: allWeek}
	daily := impl.Event{Id: "a", Zone: "utc", Start: 1000000, Long: 1, Rule: impl.Rule{Freq: impl.FreqDay, Every: 1}}
	for _, c := range planEdges {
		var want []impl.Span
		slot, rings := -1, 0
		first, last := max(c.from, 2880), min(c.to, (impl.DayMax-1)*dayMinutes)
		if c.ok && first < last {
			want, slot = spansOf(first, last), first
		}
		if c.ok && c.from >= 1000000 && c.to < 2000000 {
			rings = (c.to-1000000+1439)/1440 - (c.from-1000000+1439)/1440
		}
		checkHours(t, zones, h, c.from, c.to, want)
		if got := impl.SlotAll(zones, []impl.Hours{h}, make([][]impl.Event, 1), c.from, c.to, 1); got != slot {
			t.Errorf("%d to %d: %d", c.from, c.to, got)
		}
		if got := impl.Rings(zones, daily, []int{0}, c.from, c.to); len(got) != rings {
			t.Errorf("%d to %d: %d rings, not %d", c.from, c.to, len(got), rings)
		}
	}
}

// Hours of all sorts by clocks that turn, against the long way; far from turns, minute by minute, against what the clock shows.
func TestHoursOfAllSorts(t *testing.T) {
	rng := rand.New(rand.NewSource(76))
	turning := 0
	for range 2500 {
		around := someBeginning(rng)
		zones := someClocks(rng, around)
		h := someHours(rng, zones)
		checkHoursOk(t, zones, h, true)
		from, to := somePlan(rng, around, []int{3000, 20000, 144000}[rng.Intn(3)])
		got := impl.HoursSpans(zones, h, from, to)
		if want := slowHours(zones, h, from, to); !slices.Equal(got, want) || !slowSpansOk(got) {
			t.Fatalf("%s in %v from %d to %d: %v, not %v", hoursAt(h), zones, from, to, got, want)
		}
		z, _ := slowZone(zones, h.Zone)
		if slices.ContainsFunc(z.Turns, func(turn impl.Turn) bool { return turn.At > from && turn.At < to }) {
			turning++
		}
		checkShown(t, z, h, got, from, min(to, from+6000))
	}
	if turning < 500 {
		t.Error(turning)
	}
}

// checkShown asks the clock at each minute that is far from turns, and on a day that has hours.
func checkShown(t *testing.T, z impl.Zone, h impl.Hours, spans []impl.Span, from int, to int) {
	t.Helper()
	has := flags(spans, from, to)
	for i, is := range has {
		minute := from + i
		local := impl.ZoneLocal(z, minute)
		day := local / dayMinutes
		if day < 2 || day > impl.DayMax-2 || slices.ContainsFunc(z.Turns, func(turn impl.Turn) bool { return max(turn.At-minute, minute-turn.At) < 4400 }) {
			continue
		}
		shown := local % dayMinutes
		if want := slices.Contains(h.Days, impl.WeekDay(day)) && shown >= h.From && shown < h.To; is != want {
			t.Fatalf("%s in %v at %s: %v", hoursAt(h), z, impl.TimeText(minute), is)
		}
	}
}

// utcDays are hours of utc on all days.
func utcDays(from int, to int) impl.Hours {
	return impl.Hours{Zone: "utc", From: from, To: to, Days: allWeek}
}

func TestSlotAllExamples(t *testing.T) {
	zones := []impl.Zone{{Name: "north", Shift: 60}, {Name: "utc"}}
	monday := mustTime(t, "2026-01-05T00:00")
	h := impl.Hours{Zone: "north", From: 540, To: 1020, Days: []int{0, 2}}
	u := impl.Hours{Zone: "utc", From: 600, To: 1440, Days: []int{0, 1, 2, 3, 4}}
	e := impl.Event{Id: "a", Zone: "utc", Start: monday + 600, Long: 300}
	bad := impl.Event{Id: "a", Zone: "utc", Start: monday + 600}
	one, none := []impl.Event{e}, [][]impl.Event{nil, nil}
	for i, c := range []struct {
		hours          []impl.Hours
		events         [][]impl.Event
		from, to, long int
		want           int
	}{
		{[]impl.Hours{h, u}, [][]impl.Event{one, nil}, 0, 4320, 60, 900}, {[]impl.Hours{h, u}, [][]impl.Event{one, nil}, 0, 4320, 61, 3480}, {[]impl.Hours{u, h}, [][]impl.Event{one, nil}, 0, 4320, 60, 900}, {[]impl.Hours{h, u}, [][]impl.Event{nil, one}, 0, 4320, 61, 3480}, {[]impl.Hours{h, u}, [][]impl.Event{one, one}, 0, 4320, 60, 900},
		{[]impl.Hours{h, u}, none, 0, 4320, 360, 600}, {[]impl.Hours{h, u}, none, 0, 4320, 361, -1}, {[]impl.Hours{h, u}, none, 0, 4320, 1, 600}, {[]impl.Hours{h, u}, none, 601, 4320, 360, 3480}, {[]impl.Hours{h, u}, none, 600, 960, 360, 600}, {[]impl.Hours{h, u}, none, 600, 959, 360, -1}, {[]impl.Hours{h, u}, none, 601, 960, 360, -1}, {[]impl.Hours{h, u}, none, 960, 4320, 1, 3480}, {[]impl.Hours{h, u}, none, 959, 4320, 1, 959},
		{[]impl.Hours{h}, [][]impl.Event{one}, 0, 4320, 61, 480}, {[]impl.Hours{h}, [][]impl.Event{one}, 0, 4320, 120, 480}, {[]impl.Hours{h}, [][]impl.Event{one}, 0, 4320, 121, 3360}, {[]impl.Hours{h}, [][]impl.Event{{bad}}, 0, 4320, 480, 480}, {[]impl.Hours{h}, [][]impl.Event{{bad, e}}, 0, 4320, 480, 3360}, {[]impl.Hours{h}, [][]impl.Event{{}}, 0, 4320, 480, 480},
		{[]impl.Hours{h}, [][]impl.Event{one, nil}, 0, 4320, 61, -1}, {[]impl.Hours{h, u}, [][]impl.Event{one}, 0, 4320, 61, -1}, {[]impl.Hours{h, u}, nil, 0, 4320, 61, -1}, {nil, none, 0, 4320, 61, -1}, {nil, nil, 0, 4320, 61, -1}, {[]impl.Hours{}, [][]impl.Event{}, 0, 4320, 1, -1},
		{[]impl.Hours{h, u, h, u}, make([][]impl.Event, 4), 0, 4320, 60, 600}, {[]impl.Hours{h, u, h, u, h}, make([][]impl.Event, 5), 0, 4320, 60, -1}, {[]impl.Hours{h, u, h, u}, make([][]impl.Event, 3), 0, 4320, 60, -1}, {[]impl.Hours{h, u, h, u}, make([][]impl.Event, 5), 0, 4320, 60, -1}, {[]impl.Hours{h, u, h, u}, [][]impl.Event{nil, nil, nil, one}, 0, 4320, 60, 900}, {[]impl.Hours{h, h, h}, make([][]impl.Event, 3), 0, 4320, 60, 480},
		{[]impl.Hours{h, {Zone: "utc", From: 5, To: 5, Days: allWeek}}, none, 0, 4320, 60, -1}, {[]impl.Hours{{Zone: "south", From: 5, To: 6, Days: allWeek}, h}, none, 0, 4320, 60, -1}, {[]impl.Hours{h, {Zone: "utc", From: 5, To: 9, Days: []int{1, 1}}}, none, 0, 4320, 60, -1}, {[]impl.Hours{h, {Zone: "utc", From: 5, To: 9}}, none, 0, 4320, 1, -1}, {[]impl.Hours{h, utcDays(0, 480)}, none, 0, 4320, 1, -1}, {[]impl.Hours{h, utcDays(0, 481)}, none, 0, 4320, 1, 480},
		{[]impl.Hours{h, u}, none, 0, 4320, 0, -1}, {[]impl.Hours{h, u}, none, 0, 4320, -1, -1}, {[]impl.Hours{h, u}, none, 0, 4320, 20161, -1}, {[]impl.Hours{h, u}, none, 0, 4320, math.MaxInt, -1}, {[]impl.Hours{h, u}, none, 0, 4320, math.MinInt, -1}, {[]impl.Hours{h, u}, none, 700, 700, 1, -1}, {[]impl.Hours{h, u}, none, 700, 701, 1, 700}, {[]impl.Hours{h, u}, none, 701, 700, 1, -1},
		{[]impl.Hours{utcDays(0, 1440)}, none[:1], 7, 20167, 20160, 7}, {[]impl.Hours{utcDays(0, 1440)}, none[:1], 8, 20167, 20160, -1}, {[]impl.Hours{utcDays(0, 1440)}, none[:1], 7, 40000, 20161, -1}, {[]impl.Hours{utcDays(0, 1440)}, none[:1], 0, 144000, 20160, 0}, {[]impl.Hours{utcDays(0, 1440)}, none[:1], 0, 144001, 20160, -1}, {[]impl.Hours{utcDays(0, 1439), utcDays(0, 1440)}, none, 0, 144000, 1440, -1},
	} {
		want := c.want
		if want >= 0 {
			want += monday
		}
		if got := impl.SlotAll(zones, c.hours, c.events, monday+c.from, monday+c.to, c.long); got != want {
			t.Errorf("%d: %d, not %d", i, got-monday, c.want)
		}
	}
	for i, bad := range [][]impl.Zone{nil, named("utc", "north"), zones[:1], make([]impl.Zone, 7)} {
		if got := impl.SlotAll(bad, []impl.Hours{h, u}, none, monday, monday+4320, 60); got != -1 {
			t.Errorf("zones %d: %d", i, got)
		}
	}
}

// Somebody's events may be more spans than SpanMax.
func TestSlotAllOfMany(t *testing.T) {
	zones := named("utc")
	var events []impl.Event
	for i := range 10 {
		events = append(events, impl.Event{Id: fmt.Sprint(i), Zone: "utc", Start: 1440000 + i*144, Long: 143, Rule: impl.Rule{Freq: impl.FreqDay, Every: 1}})
	}
	hours := []impl.Hours{utcDays(0, 1440)}
	from, to := 1440000, 1440000+144000
	if busy := impl.BusyOf(zones, events, from, to); len(busy) != 1000 {
		t.Fatal(len(busy))
	}
	for _, c := range []struct{ from, long, want int }{{0, 1, 143}, {143, 1, 143}, {144, 1, 287}, {0, 2, -1}, {143999, 1, 143999}, {143000, 2, -1}} {
		want := c.want
		if want >= 0 {
			want += from
		}
		if got := impl.SlotAll(zones, hours, [][]impl.Event{events}, from+c.from, to, c.long); got != want {
			t.Errorf("%v: %d", c, got-from)
		}
	}
	both := [][]impl.Event{events[:9], events[9:]}
	if got := impl.SlotAll(zones, []impl.Hours{hours[0], hours[0]}, both, from+9*144, to, 2); got != -1 {
		t.Error(got - from)
	}
	if got := impl.SlotAll(zones, []impl.Hours{hours[0], hours[0]}, [][]impl.Event{events[:9], nil}, from, to, 145); got != from+9*144-1 {
		t.Error(got - from)
	}
}

// somePeople are people that are ok, with events around a time.
func somePeople(rng *rand.Rand, zones []impl.Zone, around int) []person {
	var people []person
	for range 1 + rng.Intn(4) {
		p := person{hours: someHours(rng, zones)}
		if rng.Intn(2) == 0 {
			p.hours.From, p.hours.To, p.hours.Days = 0, 1440, allWeek
		}
		for k := range rng.Intn(4) {
			e := impl.Event{Id: fmt.Sprint(k), Start: toBeginning(around + rng.Intn(20000) - 8000), Long: 1 + rng.Intn(900)}
			e, times := someEventIn(rng, zones, e)
			p.events, p.times = append(p.events, e), append(p.times, times)
		}
		people = append(people, p)
	}
	return people
}

// What all can is held against all minutes; it is theirs, of a minute less it is no later, and it is the same each time.
func TestSlotAllOfAllSorts(t *testing.T) {
	rng := rand.New(rand.NewSource(77))
	found, none := 0, 0
	for range 250 {
		around := someBeginning(rng)
		zones := someClocks(rng, around)
		people := somePeople(rng, zones, around)
		from, to := somePlan(rng, around, 30000)
		can := slowCan(zones, people, from, to)
		for _, long := range []int{1, 2, 1 + rng.Intn(60), 1 + rng.Intn(1440), 1 + rng.Intn(5000)} {
			at := impl.SlotAll(zones, hoursOf(people), eventsOf(people), from, to, long)
			want := slowRun(can, len(people), long)
			if want >= 0 {
				want += from
			}
			if at != want {
				t.Fatalf("%d people in %v from %d to %d, %d long: %d, not %d", len(people), zones, from, to, long, at, want)
			}
			if at < 0 {
				none++
				continue
			}
			found++
			checkSlotAll(t, zones, people, at, from, to, long)
		}
	}
	if found < 250 || none < 150 {
		t.Error(found, none)
	}
}

func checkSlotAll(t *testing.T, zones []impl.Zone, people []person, at int, from int, to int, long int) {
	t.Helper()
	slot := spansOf(at, at+long)
	for _, p := range people {
		if got := impl.HoursSpans(zones, p.hours, at, at+long); !slices.Equal(got, slot) {
			t.Fatalf("%s do not have %v", hoursAt(p.hours), slot)
		}
		if got := impl.BusyOf(zones, p.events, at, at+long); len(got) > 0 {
			t.Fatalf("%v is busy at %v", slot, got)
		}
	}
	hours, events := hoursOf(people), eventsOf(people)
	if long > 1 {
		if short := impl.SlotAll(zones, hours, events, from, to, long-1); short < from || short > at {
			t.Fatalf("%d long at %d, a minute less at %d", long, at, short)
		}
	}
	if again := impl.SlotAll(zones, hours, events, at, to, long); again != at {
		t.Fatalf("%d long at %d, from there on %d", long, at, again)
	}
	slices.Reverse(hours)
	slices.Reverse(events)
	if other := impl.SlotAll(zones, hours, events, from, to, long); other != at {
		t.Fatalf("%d long at %d, the last one first %d", long, at, other)
	}
}

func TestSlotListExamples(t *testing.T) {
	list := spansOf(0, 10, 20, 30)
	for _, c := range []struct {
		from, to, long, most int
		want                 []impl.Span
	}{
		{0, 60, 10, 3, spansOf(10, 20, 30, 40, 40, 50)}, {0, 60, 10, 4, spansOf(10, 20, 30, 40, 40, 50, 50, 60)}, {0, 60, 10, 40, spansOf(10, 20, 30, 40, 40, 50, 50, 60)}, {0, 60, 30, 3, spansOf(30, 60)}, {0, 59, 30, 3, nil}, {0, 60, 1, 0, nil}, {0, 60, 1, 1, spansOf(10, 11)}, {0, 60, 10, 1, spansOf(10, 20)},
		{0, 60, 4, 4, spansOf(10, 14, 14, 18, 30, 34, 34, 38)}, {12, 60, 4, 3, spansOf(12, 16, 16, 20, 30, 34)}, {13, 60, 4, 3, spansOf(13, 17, 30, 34, 34, 38)}, {5, 33, 3, 9, spansOf(10, 13, 13, 16, 16, 19, 30, 33)}, {5, 32, 3, 9, spansOf(10, 13, 13, 16, 16, 19)}, {15, 15, 1, 9, nil}, {15, 16, 1, 9, spansOf(15, 16)}, {16, 15, 1, 9, nil},
		{0, 60, 10, -1, nil}, {0, 60, 10, 41, nil}, {0, 60, 10, math.MinInt, nil}, {0, 60, 10, math.MaxInt, nil}, {0, 60, 0, 3, nil}, {0, 60, -1, 3, nil}, {0, 60, 20161, 3, nil}, {0, 60, math.MaxInt, 3, nil}, {0, 60, math.MinInt, 3, nil}, {-1, 60, 1, 3, nil}, {0, impl.TimeMax + 1, 1, 3, nil}, {math.MinInt, math.MaxInt, 1, 3, nil},
		{0, 100000, 20160, 40, spansOf(30, 20190, 20190, 40350, 40350, 60510, 60510, 80670)}, {0, impl.TimeMax, 20160, 2, spansOf(30, 20190, 20190, 40350)}, {impl.TimeMax - 3, impl.TimeMax, 1, 9, spansOf(impl.TimeMax-3, impl.TimeMax-2, impl.TimeMax-2, impl.TimeMax-1, impl.TimeMax-1, impl.TimeMax)},
	} {
		if got := impl.SlotList(list, c.from, c.to, c.long, c.most); !slices.Equal(got, c.want) {
			t.Errorf("%d to %d, %d long, %d: %v", c.from, c.to, c.long, c.most, got)
		}
	}
	for most, size := range map[int]int{39: 39, 40: 40, 41: 0, 42: 0, 0: 0, -1: 0} {
		got := impl.SlotList(nil, 7, 1000, 1, most)
		if len(got) != size || size > 0 && (got[0] != impl.Span{From: 7, To: 8} || got[size-1] != impl.Span{From: 6 + size, To: 7 + size}) {
			t.Errorf("%d: %v", most, got)
		}
	}
	for _, bad := range [][]impl.Span{spansOf(1, 2, 2, 3), spansOf(2, 2), spansOf(3, 4, 1, 2), spansOf(-1, 1), row(301, 2), spansOf(impl.TimeMax, lastEnd+1)} {
		if got := impl.SlotList(bad, 0, 1000, 1, 3); len(got) != 0 {
			t.Errorf("%v: %v", bad[:1], got)
		}
	}
}

// checkSlotList holds a list of slots against all minutes, against SlotFirst, and against that of one fewer.
func checkSlotList(t *testing.T, list []impl.Span, from int, to int, long int, most int) int {
	t.Helper()
	slots := impl.SlotList(list, from, to, long, most)
	if want := slowSlotList(list, from, to, long, most); !slices.Equal(slots, want) {
		t.Fatalf("%v from %d to %d, %d long, %d: %v, not %v", list, from, to, long, most, slots, want)
	}
	if len(slots) == 0 {
		return 0
	}
	next := from
	for _, s := range slots {
		if s.From != impl.SlotFirst(list, next, to, long) || s.To != s.From+long || !slices.Equal(impl.Free(list, s.From, s.To), spansOf(s.From, s.To)) {
			t.Fatalf("%v from %d to %d, %d long, %d: %v", list, from, to, long, most, slots)
		}
		next = s.To
	}
	fewer := impl.SlotList(list, from, to, long, most-1)
	if len(slots) == most {
		slots = slots[:most-1]
	}
	if !slices.Equal(fewer, slots) {
		t.Fatalf("%v from %d to %d, %d long, %d: %v, one fewer %v", list, from, to, long, most, slots, fewer)
	}
	return len(slots)
}

func TestSlotListOfAllSmall(t *testing.T) {
	for bits := range 512 {
		for from := range 4 {
			for long := -1; long < 6; long++ {
				for most := -1; most < 6; most++ {
					checkSlotList(t, bitSpans(bits), from, 11-from, long, most)
				}
			}
		}
	}
}

func TestSlotListOfAllSorts(t *testing.T) {
	rng := rand.New(rand.NewSource(78))
	several := 0
	for i := range 3000 {
		around := someAround(rng)
		list := someSpans(rng, rng.Intn(10), around)
		if i%8 > 0 {
			list = impl.Busy(list)
		}
		from := around + rng.Intn(2000) - 1000
		long := 1 + rng.Intn([]int{5, 100, 1500}[rng.Intn(3)])
		if checkSlotList(t, list, from, from+rng.Intn(5000), long, rng.Intn(43)-1) > 2 {
			several++
		}
	}
	if several < 500 {
		t.Error(several)
	}
}

func checkRings(t *testing.T, zones []impl.Zone, e impl.Event, ahead []int, from int, to int, want []impl.Ring) {
	t.Helper()
	if got := impl.Rings(zones, e, ahead, from, to); !slices.Equal(got, want) {
		t.Errorf("%s, %v ahead, from %d to %d: %v, not %v", eventAt(e), ahead[:min(len(ahead), 9)], from, to, got, want)
	}
}

// ringsOf are rings from each first number to each second.
func ringsOf(numbers ...int) []impl.Ring {
	var list []impl.Ring
	for i := 0; i+1 < len(numbers); i += 2 {
		list = append(list, impl.Ring{At: numbers[i], Hit: numbers[i+1]})
	}
	return list
}

func TestRingExamples(t *testing.T) {
	zones := named("utc")
	e := impl.Event{Id: "a", Zone: "utc", Start: 1000000, Long: 300, Rule: impl.Rule{Freq: impl.FreqDay, Every: 1}}
	once := impl.Event{Id: "a", Zone: "utc", Start: 1000000, Long: 300}
	a, b, c := 1000000, 1001440, 1002880
	checkRings(t, zones, e, []int{10, 0}, a-10, b-10, ringsOf(a-10, a, a, a))
	checkRings(t, zones, e, []int{10, 0}, a-10, b-9, ringsOf(a-10, a, a, a, b-10, b))
	checkRings(t, zones, e, []int{0, 10}, a-9, b+1, ringsOf(a, a, b-10, b, b, b))
	checkRings(t, zones, e, []int{1440}, a, a+1, ringsOf(a, b))
	checkRings(t, zones, e, []int{1440, 0}, a, a+1, ringsOf(a, a, a, b))
	checkRings(t, zones, e, []int{0, 2880, 1440}, a, b, ringsOf(a, a, a, b, a, c))
	checkRings(t, zones, e, []int{10, 10}, a-10, a, ringsOf(a-10, a))
	checkRings(t, zones, e, []int{10, 0, 10, 0}, a-10, a+1, ringsOf(a-10, a, a, a))
	checkRings(t, zones, e, []int{0, 0, 0, 0, 0}, a-10, a+1, nil)
	checkRings(t, zones, e, nil, a-10, b, nil)
	checkRings(t, zones, e, []int{}, a-10, b, nil)
	// At the beginning of the span it rings, a minute ahead, and at the end, it does not.
	for _, n := range []int{0, 1, 10, 300, 40319, 40320} {
		for _, rung := range []struct {
			from, to int
			want     []impl.Ring
		}{{a - n, a - n + 1, ringsOf(a-n, a)}, {a - n + 1, a - n + 9, nil}, {a - n - 9, a - n, nil}, {a - n - 1, a - n, nil}, {a - n - 9, a - n + 1, ringsOf(a-n, a)}, {a - n, a - n, nil}, {a - n, a - n - 1, nil}} {
			checkRings(t, zones, once, []int{n}, rung.from, rung.to, rung.want)
		}
	}
	for _, bad := range [][]int{{-1}, {40321}, {0, -1}, {40321, 0}, {math.MinInt}, {math.MaxInt}, {1, 2, 3, 4, 5}, make([]int, 100000)} {
		checkRings(t, zones, e, bad, a-10, b, nil)
	}
	checkRings(t, zones, e, []int{1, 2, 3, 4}, a-10, a, ringsOf(a-4, a, a-3, a, a-2, a, a-1, a))
	for _, bad := range [][]impl.Zone{nil, named("utd"), named("utc", "utc"), make([]impl.Zone, 7)} {
		checkRings(t, bad, e, []int{0}, a-10, b, nil)
	}
	for _, wild := range []impl.Event{{}, {Id: "A", Zone: "utc", Start: a, Long: 1}, {Id: "a", Zone: "utc", Start: a}, {Id: "a", Zone: "utc", Start: a, Long: 1, Outs: []int{a + 1}}} {
		checkRings(t, zones, wild, []int{0}, a-10, b, nil)
	}
}

// What is out does not ring; what is moved rings where it is now, and two that begin together ring once.
func TestRingsOfChanges(t *testing.T) {
	zones, e := teaZones(t), tea(t)
	at := func(text string) int { return mustTime(t, text) }
	e.Outs = []int{at("2026-03-28T09:00")}
	e.Overs = []impl.Over{{At: at("2026-03-29T09:00"), Start: at("2026-03-30T09:00"), Long: 90}, {At: at("2026-04-02T09:00"), Start: at("2026-03-27T20:00"), Long: 5}}
	from, to := at("2026-03-27T00:00"), at("2026-03-31T07:00")
	first, moved, both := at("2026-03-27T08:00"), at("2026-03-27T19:00"), at("2026-03-30T07:00")
	checkRings(t, zones, e, []int{15}, from, to, ringsOf(first-15, first, moved-15, moved, both-15, both, both+1440-15, both+1440))
	checkRings(t, zones, e, []int{0, 15}, from, to, ringsOf(first-15, first, first, first, moved-15, moved, moved, moved, both-15, both, both, both, both+1440-15, both+1440))
	checkRings(t, zones, e, []int{15}, both-15, both-14, ringsOf(both-15, both))
}

// Behind the end of all time nothing is asked for, and nothing rings ahead of its beginning.
func TestRingsAtTheEnds(t *testing.T) {
	zones := []impl.Zone{{Name: "behind", Shift: -1440}, {Name: "utc"}}
	last := impl.TimeMax - 2*dayMinutes + 1
	e := impl.Event{Id: "a", Zone: "utc", Start: last - 20*dayMinutes, Long: 7, Rule: impl.Rule{Freq: impl.FreqDay, Every: 1}}
	checkRings(t, zones, e, []int{0}, last-5, impl.TimeMax, ringsOf(last, last, last+1440, last+1440))
	checkRings(t, zones, e, []int{40320}, last-28*dayMinutes, last-27*dayMinutes+1, ringsOf(last-28*dayMinutes, last, last-27*dayMinutes, last+dayMinutes))
	checkRings(t, zones, e, []int{1440}, last, last+1, ringsOf(last, last+1440))
	e.Zone = "behind"
	checkRings(t, zones, e, []int{0, 5}, 0, 100, nil)
	first := impl.Event{Id: "a", Zone: "utc", Start: firstBeginning, Long: 1}
	checkRings(t, zones, first, []int{2880, 2881, 40320}, 0, 100, ringsOf(0, 2880))
}

func TestRingsOfAllSorts(t *testing.T) {
	several, doubles := 0, 0
	someEvents(t, 79, 500, func(rng *rand.Rand, zones []impl.Zone, e impl.Event, times []int) {
		for range 6 {
			from, _ := someSpan(rng, zones, e, times)
			ahead := someOf(rng, 1, 40320, rng.Intn(6))
			for i := range ahead {
				if rng.Intn(2) == 0 {
					ahead[i] = []int{0, 0, 1, 1440, 2880, 40320, rng.Intn(3000)}[rng.Intn(7)]
				}
			}
			if len(ahead) > 0 && rng.Intn(2) == 0 {
				from = max(from-ahead[0]+rng.Intn(3)-1, 0)
			}
			to := min(from+rng.Intn([]int{3, 3000, 144002}[rng.Intn(3)]), impl.TimeMax)
			got := impl.Rings(zones, e, ahead, from, to)
			if want := slowRings(zones, e, times, ahead, from, to); !slices.Equal(got, want) {
				t.Fatalf("%s, %v ahead, from %d to %d: %v, not %v", eventAt(e), ahead, from, to, got, want)
			}
			if len(got) > 1 {
				several++
			}
			if slices.ContainsFunc(got, func(r impl.Ring) bool {
				return slices.ContainsFunc(got, func(o impl.Ring) bool { return o.At == r.At && o.Hit != r.Hit })
			}) {
				doubles++
			}
		}
	})
	if several < 300 || doubles < 20 {
		t.Error(several, doubles)
	}
}
