package tests

import (
	"math"
	"slices"
	"strings"
	"testing"

	"loop.example/ephemeris/impl"
)

// The document's names, as they must stay.
var (
	_ func(int) bool                 = impl.YearLeap
	_ func(int, int) int             = impl.MonthDays
	_ func(impl.Date) bool           = impl.DateOk
	_ func(impl.Date) int            = impl.DayOf
	_ func(int) impl.Date            = impl.DateOf
	_ func(int) int                  = impl.WeekDay
	_ func(int) (int, int)           = impl.WeekOf
	_ func(impl.Date, int) impl.Date = impl.MonthAdd
	_ func(impl.Date) string         = impl.DateText
	_ func(string) (impl.Date, bool) = impl.DateGet
	_ func(impl.Zone) bool           = impl.ZoneOk
	_ func(impl.Zone, int) int       = impl.ZoneShift
	_ func(impl.Zone, int) int       = impl.ZoneLocal
	_ func(impl.Zone, int) int       = impl.ZoneWorld
	_ func(impl.Zone, int) []int     = impl.ZoneTimes
	_ func(int) string               = impl.TimeText
	_ func(string) (int, bool)       = impl.TimeGet

	_ func(impl.Rule) bool            = impl.RuleOk
	_ func(impl.Rule) string          = impl.RulePut
	_ func(string) (impl.Rule, bool)  = impl.RuleGet
	_ func(impl.Rule, int, int) []int = impl.RuleDays
	_ func(impl.Rule, int, int) bool  = impl.RuleOn
	_ func(impl.Rule, int, int) int   = impl.RuleNext

	_ func([]impl.Zone) bool                                                    = impl.ZonesOk
	_ func([]impl.Zone, impl.Event) bool                                        = impl.EventOk
	_ func([]impl.Zone, impl.Event, int, int) []impl.Hit                        = impl.EventHits
	_ func(impl.Event, int) bool                                                = impl.EventComes
	_ func([]impl.Zone, impl.Event, int) (impl.Event, bool)                     = impl.EventOut
	_ func([]impl.Zone, impl.Event, impl.Over) (impl.Event, bool)               = impl.EventOver
	_ func([]impl.Zone, impl.Event, int, string) (impl.Event, impl.Event, bool) = impl.EventSplit

	_ func([]impl.Span) bool                                = impl.SpansOk
	_ func([]impl.Span) []impl.Span                         = impl.Busy
	_ func([]impl.Zone, []impl.Event, int, int) []impl.Span = impl.BusyOf
	_ func([]impl.Span, int, int) []impl.Span               = impl.Free
	_ func([]impl.Span) int                                 = impl.SpanSize
	_ func([]impl.Span, int, int, int) int                  = impl.SlotFirst

	_ func([]impl.Zone) (impl.Store, bool)                = impl.StoreNew
	_ func(impl.Store) bool                               = impl.StoreOk
	_ func(impl.Store, impl.Event, int) (impl.Store, int) = impl.StorePut
	_ func(impl.Store, string, int) (impl.Store, int)     = impl.StoreGone
	_ func(impl.Store, string) (impl.Event, bool)         = impl.StoreGet
	_ func(impl.Store, int, int) (impl.News, bool)        = impl.StoreNews
	_ func(impl.Store, int, int) []impl.Hit               = impl.StoreHits

	_ func(string) string             = impl.EscPut
	_ func(string) (string, bool)     = impl.EscGet
	_ func(string) string             = impl.Fold
	_ func(string) ([]string, bool)   = impl.Unfold
	_ func(impl.Prop) bool            = impl.PropOk
	_ func(impl.Prop) string          = impl.PropPut
	_ func(string) (impl.Prop, bool)  = impl.PropGet
	_ func(impl.Event) string         = impl.IcalPut
	_ func(string) (impl.Event, bool) = impl.IcalGet

	_ func([]impl.Zone, impl.Meet) bool                                 = impl.MeetOk
	_ func([]impl.Zone, impl.Event, string, []string) (impl.Meet, bool) = impl.MeetNew
	_ func([]impl.Zone, impl.Meet, impl.Event) (impl.Meet, bool)        = impl.MeetChange
	_ func([]impl.Zone, impl.Meet, string, bool) (impl.Meet, bool)      = impl.MeetAsk
	_ func([]impl.Zone, impl.Meet, string, int, int) (impl.Meet, bool)  = impl.MeetSay
	_ func([]impl.Zone, impl.Meet) (impl.Meet, bool)                    = impl.MeetOff
	_ func(impl.Meet, int) int                                          = impl.MeetCount
	_ func(impl.Meet) impl.Letter                                       = impl.MeetLetter
	_ func(impl.Letter, impl.Letter) impl.Letter                        = impl.LetterTake
)

// A panic ends the test, so that calling is enough.
func TestDaysNeverPanic(t *testing.T) {
	for _, a := range wildInts {
		impl.YearLeap(a)
		impl.DateOf(a)
		impl.WeekDay(a)
		impl.WeekOf(a)
		impl.TimeText(a)
		for _, b := range wildInts {
			impl.MonthDays(a, b)
			for _, c := range wildInts {
				d := impl.Date{Year: a, Month: b, Day: c}
				impl.DateOk(d)
				impl.DayOf(d)
				impl.DateText(d)
				for _, n := range wildInts {
					impl.MonthAdd(d, n)
				}
			}
		}
	}
}

func TestTextsNeverPanic(t *testing.T) {
	texts := []string{"", "-", "----------", "T", "\x00", "\xff\xfe", strings.Repeat("9", 10), strings.Repeat("9", 16), strings.Repeat("9", 100000), "9999-99-99", "9999-99-99T99:99", "éééééééé", strings.Repeat("\xff", 16)}
	for _, text := range texts {
		if got, ok := impl.DateGet(text); ok || got != (impl.Date{}) {
			t.Errorf("%q: %v %v", text, got, ok)
		}
		if got, ok := impl.TimeGet(text); ok || got != 0 {
			t.Errorf("%q: %d %v", text, got, ok)
		}
	}
}

// wildZones are zones of all sorts, most of them not ok.
func wildZones() []impl.Zone {
	var list []impl.Zone
	for _, name := range []string{"", "utc", "UTC", "\xff\x00", strings.Repeat("a", 100)} {
		for _, shift := range wildInts {
			list = append(list, impl.Zone{Name: name, Shift: shift})
		}
	}
	for _, at := range wildInts {
		for _, shift := range []int{math.MinInt, -1441, -1440, 0, 1440, 1441, math.MaxInt} {
			list = append(list, impl.Zone{Name: "utc", Turns: []impl.Turn{{At: at, Shift: shift}}})
		}
		for _, next := range wildInts {
			list = append(list, impl.Zone{Name: "utc", Turns: []impl.Turn{{At: at, Shift: 60}, {At: next, Shift: -60}}})
		}
	}
	return list
}

// Each zone of all sorts, asked for each number, answers as the document's words done the long way.
func TestZonesNeverPanic(t *testing.T) {
	for _, z := range wildZones() {
		ok := slowZoneOk(z)
		if impl.ZoneOk(z) != ok {
			t.Fatalf("%v: %v", z, !ok)
		}
		for _, at := range wildInts {
			shift, local := 0, -1
			if ok && isTime(at) {
				shift = slowShift(z, at)
				local = at + shift
			}
			if impl.ZoneShift(z, at) != shift || impl.ZoneLocal(z, at) != local {
				t.Fatalf("%v at %d: %d %d", z, at, impl.ZoneShift(z, at), impl.ZoneLocal(z, at))
			}
			world, times := impl.ZoneWorld(z, at), impl.ZoneTimes(z, at)
			if (!ok || !isTime(at)) && (world != -1 || len(times) != 0) {
				t.Fatalf("%v at %d: %d %v", z, at, world, times)
			}
			if world != -1 && !isTime(world) || len(times) > 0 && world != times[0] {
				t.Fatalf("%v at %d: %d %v", z, at, world, times)
			}
		}
	}
}

// roomyZone has room behind its turns, with something in it that nobody may read or write.
func roomyZone(t *testing.T) (impl.Zone, []impl.Turn) {
	z := north(t)
	whole := append(slices.Clone(z.Turns), impl.Turn{At: z.Turns[1].At + 20000, Shift: 777}, impl.Turn{At: 1, Shift: 7})
	z.Turns = whole[:2]
	return z, whole
}

// Nothing is written into an argument, or behind its end; nothing behind its end is read.
func TestNothingIsChanged(t *testing.T) {
	z, whole := roomyZone(t)
	before := slices.Clone(whole)
	if !impl.ZoneOk(z) {
		t.Error("what is behind the end counts")
	}
	for _, turn := range whole[:3] {
		for at := turn.At - 3000; at <= turn.At+3000; at++ {
			impl.ZoneShift(z, at)
			impl.ZoneLocal(z, at)
			impl.ZoneWorld(z, at)
			scribble(impl.ZoneTimes(z, at))
		}
	}
	if impl.ZoneShift(z, whole[2].At) != 60 {
		t.Error("a turn behind the end counts")
	}
	if !slices.Equal(whole, before) || len(z.Turns) != 2 || z.Name != "north" || z.Shift != 60 {
		t.Errorf("%v", whole)
	}
}

// scribble writes into a list and all room behind it.
func scribble(list []int) {
	list = list[:cap(list)]
	for i := range list {
		list[i] = -99
	}
}

// An answer shares no memory with an argument, nor with another answer; nothing is kept between calls.
func TestAnswersAreNew(t *testing.T) {
	z := north(t)
	before := slices.Clone(z.Turns)
	local := mustTime(t, "2026-10-25T02:30")
	one, other := impl.ZoneTimes(z, local), impl.ZoneTimes(z, local)
	want := slices.Clone(one)
	if len(want) != 2 {
		t.Fatal(want)
	}
	scribble(one)
	if !slices.Equal(other, want) || !slices.Equal(impl.ZoneTimes(z, local), want) || !slices.Equal(z.Turns, before) {
		t.Errorf("%v %v %v", other, impl.ZoneTimes(z, local), z.Turns)
	}
	z.Turns[1].Shift = 90
	if !slices.Equal(other, want) {
		t.Errorf("%v", other)
	}
	if got := impl.ZoneShift(z, impl.TimeMax); got != 90 {
		t.Errorf("kept: %d", got)
	}
	steady := impl.Zone{Name: "z", Shift: 60}
	one, other = impl.ZoneTimes(steady, 100), impl.ZoneTimes(steady, 100)
	scribble(one)
	if !slices.Equal(other, []int{40}) || !slices.Equal(impl.ZoneTimes(steady, 100), []int{40}) {
		t.Errorf("%v", other)
	}
}

// The empty list of turns and none at all are the same.
func TestEmptyIsNil(t *testing.T) {
	none, empty := impl.Zone{Name: "z", Shift: 60}, impl.Zone{Name: "z", Shift: 60, Turns: []impl.Turn{}}
	for _, at := range wildInts {
		if impl.ZoneShift(none, at) != impl.ZoneShift(empty, at) || impl.ZoneLocal(none, at) != impl.ZoneLocal(empty, at) || impl.ZoneWorld(none, at) != impl.ZoneWorld(empty, at) || !slices.Equal(impl.ZoneTimes(none, at), impl.ZoneTimes(empty, at)) {
			t.Errorf("%d", at)
		}
	}
}
