package tests

import (
	"math"
	"slices"
	"testing"

	"loop.example/ephemeris/impl"
)

// wildSpans are spans between all sorts of numbers, most of them none.
func wildSpans() []impl.Span {
	var list []impl.Span
	numbers := append([]int{lastEnd - 1, lastEnd, lastEnd + 1}, wildInts...)
	for _, from := range numbers {
		for _, to := range numbers {
			list = append(list, impl.Span{From: from, To: to})
		}
	}
	return list
}

// checkSpanCalls calls all of chapter 5 that takes spans; a panic ends the test.
func checkSpanCalls(t *testing.T, list []impl.Span, from int, to int, long int) {
	t.Helper()
	if got := impl.SpansOk(list); got != slowSpansOk(list) {
		t.Fatalf("%d spans: ok %v", len(list), got)
	}
	if got := impl.Busy(list); !slices.Equal(got, slowBusy(list)) {
		t.Fatalf("%d spans: busy %v", len(list), got)
	}
	if got := impl.SpanSize(list); got != slowSize(list) {
		t.Fatalf("%d spans: size %d", len(list), got)
	}
	if got := impl.Free(list, from, to); !slices.Equal(got, slowFree(list, from, to)) {
		t.Fatalf("%d spans from %d to %d: free %v", len(list), from, to, got)
	}
	if got := impl.SlotFirst(list, from, to, long); got != slowSlot(list, from, to, long) {
		t.Fatalf("%d spans from %d to %d, %d long: %d", len(list), from, to, long, got)
	}
}

func TestSpansNeverPanic(t *testing.T) {
	wild := wildSpans()
	for i, s := range wild {
		other := wild[(i*7+3)%len(wild)]
		for _, list := range [][]impl.Span{{s}, {s, other}, {other, s}, {s, s}} {
			checkSpanCalls(t, list, s.From, s.To, s.To)
			checkSpanCalls(t, list, s.To, s.From, s.From)
			checkSpanCalls(t, list, 0, impl.TimeMax, s.From)
		}
	}
	numbers := []int{math.MinInt, -1, 0, 1, 2, 20160, 20161, impl.TimeMax, impl.TimeMax + 1, math.MaxInt}
	for _, list := range [][]impl.Span{nil, {}, wild, row(2, 2), row(299, 2), row(300, 2), row(301, 2), row(100000, 2), make([]impl.Span, 100000), slices.Repeat(spansOf(math.MinInt, math.MaxInt), 1000)} {
		for _, from := range numbers {
			checkSpanCalls(t, list, from, from, 1)
			for _, long := range numbers {
				if len(list) <= 300 {
					checkSpanCalls(t, list, 0, from, long)
					checkSpanCalls(t, list, from, impl.TimeMax, long)
				}
			}
		}
	}
}

func TestBusyOfNeverPanics(t *testing.T) {
	zones, wild := teaZones(t), wildEvents(t)
	numbers := []int{math.MinInt, -1, 0, 2880, tea(t).Start, impl.TimeMax, impl.TimeMax + 1, math.MaxInt}
	for _, from := range numbers {
		for _, to := range numbers {
			for _, e := range wild {
				got := impl.BusyOf(zones, []impl.Event{e}, from, to)
				if len(got) > 0 && (!isTime(from) || !isTime(to) || from >= to || !slowEventOk(zones, e) || !slowSpansOk(got)) {
					t.Fatalf("%s from %d to %d: %v", eventAt(e), from, to, got)
				}
			}
		}
	}
	all := impl.BusyOf(zones, wild, 0, impl.TimeMax)
	var taken []impl.Span
	for _, e := range wild {
		taken = append(taken, impl.BusyOf(zones, []impl.Event{e}, 0, impl.TimeMax)...)
	}
	if len(taken) == 0 || !slices.Equal(all, pieced(edgesOf(taken), func(minute int) bool { return someHas(taken, minute) })) {
		t.Errorf("%d of %d", len(all), len(taken))
	}
	impl.BusyOf(zones, make([]impl.Event, 100000), 0, impl.TimeMax)
	impl.BusyOf(make([]impl.Zone, 100000), wild, 0, impl.TimeMax)
	for _, z := range wildZones() {
		e := tea(t)
		e.Zone = z.Name
		if got := impl.BusyOf([]impl.Zone{z}, []impl.Event{e}, e.Start-10000, e.Start+10000); (len(got) > 0) != slowZoneOk(z) {
			t.Fatalf("%v: %v", z, got)
		}
	}
}

// scribbleSpans writes into a list of spans and all room behind it.
func scribbleSpans(list []impl.Span) {
	list = list[:cap(list)]
	for i := range list {
		list[i] = impl.Span{From: -99, To: -98}
	}
}

// roomySpans has room behind its end, with something in it that nobody may read or write.
func roomySpans(list []impl.Span) ([]impl.Span, []impl.Span) {
	whole := append(slices.Clone(list), spansOf(3, 9, 77, 88, -7, 7777)...)
	return whole[:len(list)], whole
}

func TestSpansAreNew(t *testing.T) {
	for _, given := range [][]impl.Span{nil, spansOf(5, 12), spansOf(5, 12, 30, 50), spansOf(30, 50, 5, 12, 12, 14), row(300, 2), row(301, 2), spansOf(2, 2)} {
		list, whole := roomySpans(given)
		before := slices.Clone(whole)
		calls := []func() []impl.Span{
			func() []impl.Span { return impl.Busy(list) },
			func() []impl.Span { return impl.Free(list, 0, 60) },
			func() []impl.Span { return impl.Free(list, 5, 60) },
			func() []impl.Span { return impl.Free(list, 0, 3) },
		}
		wants := [][]impl.Span{slowBusy(given), slowFree(given, 0, 60), slowFree(given, 5, 60), slowFree(given, 0, 3)}
		for i, call := range calls {
			one, other := call(), call()
			if !slices.Equal(one, wants[i]) || !slices.Equal(whole, before) {
				t.Fatalf("call %d of %d: %v", i, len(given), one)
			}
			scribbleSpans(one)
			if !slices.Equal(other, wants[i]) || !slices.Equal(whole, before) || !slices.Equal(call(), wants[i]) {
				t.Errorf("call %d of %d: shared, or kept", i, len(given))
			}
		}
		if impl.SpansOk(list) != slowSpansOk(given) || impl.SpanSize(list) != slowSize(given) || impl.SlotFirst(list, 0, 60, 4) != slowSlot(given, 0, 60, 4) || !slices.Equal(whole, before) {
			t.Errorf("%d spans: changed", len(given))
		}
	}
}

func TestBusyOfIsNew(t *testing.T) {
	zones, e, all := roomyEvent(t)
	before, beforeEvent := all.copied(), copyEvent(e)
	whole := []impl.Event{e, tea(t), {Id: "bad"}, tea(t)}
	whole[3].Start += 300
	events := whole[:2]
	for _, from := range []int{0, e.Start} {
		one, other := impl.BusyOf(zones, events, from, from+e.Start+90*dayMinutes), impl.BusyOf(zones, events, from, from+e.Start+90*dayMinutes)
		want := slices.Clone(other)
		if len(want) < 50 || !slices.Equal(one, want) {
			t.Fatal(one)
		}
		scribbleSpans(one)
		if !slices.Equal(other, want) || !slices.Equal(impl.BusyOf(zones, events, from, from+e.Start+90*dayMinutes), want) {
			t.Error("shared, or kept")
		}
	}
	later := tea(t)
	later.Start += 300
	if !all.same(before) || !sameEvent(whole[0], beforeEvent) || !sameEvent(whole[1], tea(t)) || !sameEvent(whole[2], impl.Event{Id: "bad"}) || !sameEvent(whole[3], later) {
		t.Error("changed")
	}
}
