package tests

import (
	"math"
	"slices"
	"strings"
	"testing"

	"loop.example/ephemeris/impl"
)

// wildEvents are events of all sorts, most of them not ok.
func wildEvents(t *testing.T) []impl.Event {
	list := []impl.Event{{}, {Id: "a", Zone: "utc"}, tea(t)}
	for _, n := range append([]int{2879, 2880, lastBeginning, lastBeginning + 1, 20160, 20161}, wildInts...) {
		for i := range 8 {
			e := tea(t)
			switch i {
			case 0:
				e.Start = n
			case 1:
				e.Start, e.Rule = n, impl.Rule{}
			case 2:
				e.Long = n
			case 3:
				e.Outs = []int{n}
			case 4:
				e.Outs = []int{e.Start, n}
			case 5:
				e.Overs = []impl.Over{{At: n, Start: n, Long: n}}
			case 6:
				e.Overs = []impl.Over{{At: e.Start, Start: n, Long: 1}}
			case 7:
				e.Start, e.Long, e.Outs, e.Overs = n, n, []int{n, n}, []impl.Over{{At: n, Start: n, Long: n}, {At: n, Start: n, Long: n}}
				e.Rule = impl.Rule{Freq: n, Every: n, Count: n, Until: n, Week: n}
			}
			list = append(list, e)
		}
	}
	for _, text := range []string{"", "\x00", "\xff", "é", strings.Repeat("a", 100000)} {
		for i := range 4 {
			e := tea(t)
			switch i {
			case 0:
				e.Id = text
			case 1:
				e.Title = text
			case 2:
				e.Zone = text
			case 3:
				e.Overs = []impl.Over{{At: e.Start, Start: e.Start, Long: 1, Title: text}}
			}
			list = append(list, e)
		}
	}
	for _, size := range []int{6, 7, 1000, 1000000} {
		outs, overs := tea(t), tea(t)
		outs.Outs, overs.Overs = make([]int, size), make([]impl.Over, size)
		list = append(list, outs, overs)
	}
	return list
}

// checkCalls calls all of chapter 4; a panic ends the test.
func checkCalls(t *testing.T, zones []impl.Zone, e impl.Event, a int, b int) {
	t.Helper()
	ok := impl.EventOk(zones, e)
	impl.EventComes(e, a)
	hits := impl.EventHits(zones, e, a, b)
	out, outDone := impl.EventOut(zones, e, a)
	over, overDone := impl.EventOver(zones, e, impl.Over{At: a, Start: b, Long: b, Title: e.Title})
	first, second, parted := impl.EventSplit(zones, e, a, "new")
	if !ok && (len(hits) != 0 || outDone || overDone || parted || !isNothing(out) || !isNothing(over) || !isNothing(first) || !isNothing(second)) {
		t.Fatalf("%s at %d and %d", eventAt(e), a, b)
	}
	if ok && (!outDone && !sameEvent(out, e) || !overDone && !sameEvent(over, e) || !parted && !(isNothing(first) && isNothing(second))) {
		t.Fatalf("%s at %d and %d", eventAt(e), a, b)
	}
}

func TestEventsNeverPanic(t *testing.T) {
	zones := teaZones(t)
	numbers := []int{math.MinInt, math.MinInt + 1440, -1441, -1, 0, 1, 1440, 2880, tea(t).Start, tea(t).Start + 1440, lastBeginning, impl.TimeMax - 1, impl.TimeMax, impl.TimeMax + 1, math.MaxInt - 1440, math.MaxInt}
	for _, e := range wildEvents(t) {
		if ok := slowEventOk(zones, e); impl.EventOk(zones, e) != ok {
			t.Fatalf("%s: %v", eventAt(e), !ok)
		}
		for _, a := range numbers {
			for _, b := range numbers {
				checkCalls(t, zones, e, a, b)
			}
		}
	}
	for _, bad := range [][]impl.Zone{nil, {}, make([]impl.Zone, 6), make([]impl.Zone, 1000000)} {
		for _, a := range numbers {
			checkCalls(t, bad, tea(t), a, a)
		}
	}
}

func TestEventsWithWildZones(t *testing.T) {
	at := tea(t).Start
	for _, z := range wildZones() {
		e := tea(t)
		e.Zone = z.Name
		zones := []impl.Zone{z}
		if ok := slowZoneOk(z); impl.ZonesOk(zones) != ok || impl.EventOk(zones, e) != ok {
			t.Fatalf("%v: %v", z, !ok)
		}
		checkCalls(t, zones, e, at, at+dayMinutes)
		checkCalls(t, zones, e, at+dayMinutes, impl.TimeMax)
	}
}

func TestEventsWithWildRules(t *testing.T) {
	zones := teaZones(t)
	for _, r := range wildRules() {
		e := tea(t)
		e.Rule = r
		if ok := slowRuleOk(r) || hasNoRule(e); impl.EventOk(zones, e) != ok || !ok && impl.EventComes(e, e.Start) {
			t.Fatalf("%+v: %v", r, !ok)
		}
		for _, start := range []int{firstBeginning, e.Start, lastBeginning} {
			e.Start = start
			checkCalls(t, zones, e, start, start+90*dayMinutes)
			checkCalls(t, zones, e, start+dayMinutes, start-dayMinutes)
		}
	}
}

// roomy is lists with room behind their ends, with something in it that nobody may read or write.
type roomy struct {
	zones []impl.Zone
	turns []impl.Turn
	bys   []impl.By
	ints  [4][]int
	overs []impl.Over
}

func (r roomy) copied() roomy {
	r.zones, r.turns, r.bys, r.overs = slices.Clone(r.zones), slices.Clone(r.turns), slices.Clone(r.bys), slices.Clone(r.overs)
	for i := range r.ints {
		r.ints[i] = slices.Clone(r.ints[i])
	}
	return r
}

func (r roomy) same(o roomy) bool {
	for i := range r.ints {
		if !slices.Equal(r.ints[i], o.ints[i]) {
			return false
		}
	}
	sameZone := func(a, b impl.Zone) bool {
		return a.Name == b.Name && a.Shift == b.Shift && slices.Equal(a.Turns, b.Turns)
	}
	return slices.EqualFunc(r.zones, o.zones, sameZone) && slices.Equal(r.turns, o.turns) && slices.Equal(r.bys, o.bys) && slices.Equal(r.overs, o.overs)
}

// roomyEvent is an event that is ok, all of whose lists have something in them and behind their ends.
func roomyEvent(t *testing.T) ([]impl.Zone, impl.Event, roomy) {
	t.Helper()
	z, turns := roomyZone(t)
	all := roomy{
		zones: []impl.Zone{z, {Name: "utc"}, {Name: "bad", Shift: 7777}, {Name: "bad", Shift: 7778}},
		turns: turns,
		bys:   []impl.By{{Day: 0}, {Day: 1}, {Day: 2}, {Day: 3}, {Day: 4}, {Num: 99, Day: 99}, {Num: 98, Day: 98}},
	}
	all.ints = [4][]int{{-1, 1, 2, 3, 29, 777, 778}, {1, 2, 3, 4, 5, 777, 778}, {-1, 1, 777, 778}, nil}
	e := tea(t)
	e.Rule = impl.Rule{Freq: impl.FreqMonth, Every: 1, Count: 20, Days: all.bys[:5], Dates: all.ints[0][:5], Months: all.ints[1][:5], Places: all.ints[2][:2]}
	times := slowEventTimes(e)
	if len(times) != 20 {
		t.Fatal(times)
	}
	all.ints[3] = []int{times[1], times[4], times[6], 777, 778}
	all.overs = append(oversAt([]int{times[2], times[5], times[7]}), impl.Over{At: 777}, impl.Over{At: 778})
	e.Outs, e.Overs = all.ints[3][:3], all.overs[:3]
	zones := all.zones[:2]
	if !slowEventOk(zones, e) || !impl.ZonesOk(zones) || !impl.EventOk(zones, e) {
		t.Fatal("what is behind the end counts", eventAt(e))
	}
	return zones, e, all
}

// scribbleAll writes into each list of an event and all room behind it, one list at a time, and asks after each that all other lists are as they were.
func scribbleAll(t *testing.T, e impl.Event, others func() bool) {
	t.Helper()
	want := copyEvent(e)
	for i := range 6 {
		switch i {
		case 0:
			scribble(e.Outs)
			want.Outs = slices.Clone(e.Outs)
		case 1:
			scribble(e.Rule.Dates)
			want.Rule.Dates = slices.Clone(e.Rule.Dates)
		case 2:
			scribble(e.Rule.Months)
			want.Rule.Months = slices.Clone(e.Rule.Months)
		case 3:
			scribble(e.Rule.Places)
			want.Rule.Places = slices.Clone(e.Rule.Places)
		case 4:
			bys := e.Rule.Days[:cap(e.Rule.Days)]
			for k := range bys {
				bys[k] = impl.By{Num: -99, Day: -99}
			}
			want.Rule.Days = slices.Clone(e.Rule.Days)
		case 5:
			overs := e.Overs[:cap(e.Overs)]
			for k := range overs {
				overs[k] = impl.Over{At: -99}
			}
			want.Overs = slices.Clone(e.Overs)
		}
		if !sameEvent(e, want) || !others() {
			t.Errorf("list %d is shared", i)
		}
	}
}

// Nothing is written into an argument, or behind its end, and an answer shares no memory with an argument or another answer: true or false beside it.
func TestEventAnswersAreNew(t *testing.T) {
	zones, e, all := roomyEvent(t)
	before, beforeEvent := all.copied(), copyEvent(e)
	kept := func() bool { return all.same(before) && sameEvent(e, beforeEvent) && len(zones) == 2 }
	times := slowEventTimes(e)
	calls := []struct {
		call func() (impl.Event, bool)
		ok   bool
	}{
		{func() (impl.Event, bool) { return impl.EventOut(zones, e, times[0]) }, true},
		{func() (impl.Event, bool) { return impl.EventOut(zones, e, times[2]) }, true},
		{func() (impl.Event, bool) { return impl.EventOut(zones, e, times[19]) }, true},
		{func() (impl.Event, bool) { return impl.EventOut(zones, e, times[1]) }, false},
		{func() (impl.Event, bool) { return impl.EventOut(zones, e, -1) }, false},
		{func() (impl.Event, bool) {
			return impl.EventOver(zones, e, impl.Over{At: times[0], Start: 2880, Long: 1})
		}, true},
		{func() (impl.Event, bool) {
			return impl.EventOver(zones, e, impl.Over{At: times[5], Start: 2880, Long: 1})
		}, true},
		{func() (impl.Event, bool) {
			return impl.EventOver(zones, e, impl.Over{At: times[19], Start: 2880, Long: 1})
		}, true},
		{func() (impl.Event, bool) {
			return impl.EventOver(zones, e, impl.Over{At: times[1], Start: 2880, Long: 1})
		}, false},
		{func() (impl.Event, bool) {
			return impl.EventOver(zones, e, impl.Over{At: times[5], Start: 2880})
		}, false},
	}
	for i, c := range calls {
		one, ok := c.call()
		other, _ := c.call()
		want := copyEvent(other)
		if ok != c.ok || !sameEvent(one, want) || !kept() {
			t.Fatalf("call %d: %s", i, eventAt(one))
		}
		scribbleAll(t, one, func() bool { return kept() && sameEvent(other, want) })
		if again, _ := c.call(); !sameEvent(again, want) {
			t.Errorf("call %d: kept", i)
		}
	}
}

func TestEventPartsAreNew(t *testing.T) {
	zones, e, all := roomyEvent(t)
	before, beforeEvent := all.copied(), copyEvent(e)
	kept := func() bool { return all.same(before) && sameEvent(e, beforeEvent) }
	times := slowEventTimes(e)
	for _, at := range []int{times[1], times[3], times[5], times[19]} {
		first, second, ok := impl.EventSplit(zones, e, at, "new")
		wantFirst, wantSecond := copyEvent(first), copyEvent(second)
		if !ok || !kept() {
			t.Fatal(at)
		}
		scribbleAll(t, first, func() bool { return kept() && sameEvent(second, wantSecond) })
		again, other, _ := impl.EventSplit(zones, e, at, "new")
		if !sameEvent(again, wantFirst) || !sameEvent(other, wantSecond) {
			t.Errorf("parted at %d: kept", at)
		}
		scribbleAll(t, second, func() bool { return kept() && sameEvent(again, wantFirst) && sameEvent(other, wantSecond) })
		scribbleAll(t, other, func() bool { return kept() && sameEvent(again, wantFirst) })
	}
}

func TestHitsAreNew(t *testing.T) {
	zones, e, all := roomyEvent(t)
	before, beforeEvent := all.copied(), copyEvent(e)
	one, other := impl.EventHits(zones, e, 0, impl.TimeMax), impl.EventHits(zones, e, 0, impl.TimeMax)
	want := slowHits(zones, e, slowEventTimes(e), 0, impl.TimeMax)
	if len(want) != 17 || !slices.Equal(one, want) {
		t.Fatal(one)
	}
	one = one[:cap(one)]
	for i := range one {
		one[i] = impl.Hit{Id: "x"}
	}
	if !slices.Equal(other, want) || !slices.Equal(impl.EventHits(zones, e, 0, impl.TimeMax), want) {
		t.Error("shared")
	}
	impl.ZonesOk(zones)
	impl.EventComes(e, e.Start)
	if !all.same(before) || !sameEvent(e, beforeEvent) {
		t.Error("changed")
	}
}

// The empty lists and none at all are the same.
func TestEventEmptyIsNil(t *testing.T) {
	zones, none := teaZones(t), tea(t)
	empty := copyEvent(none)
	empty.Outs, empty.Overs = []int{}, []impl.Over{}
	empty.Rule.Days, empty.Rule.Dates, empty.Rule.Months, empty.Rule.Places = []impl.By{}, []int{}, []int{}, []int{}
	at := none.Start + 3*dayMinutes
	if !impl.EventOk(zones, empty) || !slices.Equal(impl.EventHits(zones, none, 0, impl.TimeMax), impl.EventHits(zones, empty, 0, impl.TimeMax)) {
		t.Error("hits")
	}
	a, ok := impl.EventOut(zones, none, at)
	b, fine := impl.EventOut(zones, empty, at)
	if !ok || !fine || !sameEvent(a, b) {
		t.Error("out")
	}
	one, two, ok := impl.EventSplit(zones, none, at, "new")
	three, four, fine := impl.EventSplit(zones, empty, at, "new")
	if !ok || !fine || !sameEvent(one, three) || !sameEvent(two, four) {
		t.Error("parted")
	}
}
