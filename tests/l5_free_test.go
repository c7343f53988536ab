package tests

import (
	"fmt"
	"math"
	"math/rand"
	"slices"
	"testing"

	"loop.example/ephemeris/impl"
)

func TestSpanLimits(t *testing.T) {
	if impl.SpanMax != 300 {
		t.Error(impl.SpanMax)
	}
}

// spansOf are spans from each first to each second number.
func spansOf(numbers ...int) []impl.Span {
	var list []impl.Span
	for i := 0; i+1 < len(numbers); i += 2 {
		list = append(list, impl.Span{From: numbers[i], To: numbers[i+1]})
	}
	return list
}

// row is so many spans of a minute, so many minutes from one to the next.
func row(n int, apart int) []impl.Span {
	var list []impl.Span
	for i := range n {
		list = append(list, impl.Span{From: i * apart, To: i*apart + 1})
	}
	return list
}

// What one span alone must be: Busy of it is it, or nothing.
func TestOneSpan(t *testing.T) {
	for _, c := range []struct {
		from, to int
		ok       bool
	}{
		{0, 1, true}, {0, 2, true}, {0, 0, false}, {0, -1, false}, {1, 0, false}, {-1, 0, false}, {-1, 1, false}, {-1, -1, false}, {-2, -1, false},
		{5, 5, false}, {5, 6, true}, {5, 4, false}, {7, 7, false},
		{0, impl.TimeMax, true}, {0, impl.TimeMax + 1, true}, {0, impl.TimeMax + impl.LongMax, true}, {0, impl.TimeMax + impl.LongMax + 1, false},
		{impl.TimeMax, impl.TimeMax, false}, {impl.TimeMax, impl.TimeMax + 1, true}, {impl.TimeMax, impl.TimeMax + impl.LongMax, true}, {impl.TimeMax, impl.TimeMax + impl.LongMax + 1, false},
		{impl.TimeMax - 1, impl.TimeMax, true}, {impl.TimeMax + 1, impl.TimeMax + 2, false}, {impl.TimeMax + impl.LongMax - 1, impl.TimeMax + impl.LongMax, false}, {impl.TimeMax + impl.LongMax, impl.TimeMax + impl.LongMax + 1, false},
		{math.MinInt, math.MaxInt, false}, {math.MinInt, math.MinInt, false}, {math.MinInt, 5, false}, {0, math.MaxInt, false}, {math.MaxInt, math.MaxInt, false}, {math.MaxInt, math.MinInt, false}, {math.MaxInt, 0, false}, {5, math.MinInt, false},
	} {
		list := spansOf(c.from, c.to)
		var want []impl.Span
		size := 0
		if c.ok {
			want, size = list, c.to-c.from
		}
		if slowIsSpan(list[0]) != c.ok || impl.SpansOk(list) != c.ok {
			t.Errorf("%v: %v", list, impl.SpansOk(list))
		}
		if got := impl.Busy(list); !slices.Equal(got, want) {
			t.Errorf("%v: %v", list, got)
		}
		if got := impl.Busy(append(spansOf(3, 4), list...)); !slices.Equal(got, slowBusy(append(spansOf(3, 4), want...))) {
			t.Errorf("%v: %v", list, got)
		}
		if got := impl.SpanSize(list); got != size {
			t.Errorf("%v: %d", list, got)
		}
	}
}

func TestSpansOk(t *testing.T) {
	for _, c := range []struct {
		list []impl.Span
		ok   bool
	}{
		{nil, true}, {[]impl.Span{}, true}, {spansOf(1, 2), true},
		{spansOf(1, 2, 3, 4), true}, {spansOf(1, 2, 2, 3), false}, {spansOf(1, 3, 2, 4), false}, {spansOf(1, 9, 2, 3), false}, {spansOf(3, 4, 1, 2), false},
		{spansOf(1, 2, 1, 2), false}, {spansOf(1, 2, 4, 4), false}, {spansOf(1, 2, 4, 3), false}, {spansOf(-2, -1, 1, 2), false}, {spansOf(0, 1, 2, 3), true},
		{spansOf(1, 2, 3, 4, 5, 6), true}, {spansOf(1, 2, 3, 4, 4, 6), false}, {spansOf(1, 2, 2, 4, 5, 6), false}, {spansOf(1, 2, 5, 6, 3, 4), false},
		{spansOf(0, 1, impl.TimeMax, impl.TimeMax+impl.LongMax), true}, {spansOf(0, 1, impl.TimeMax, impl.TimeMax+impl.LongMax+1), false},
		{row(299, 2), true}, {row(300, 2), true}, {row(301, 2), false}, {row(300, 1), false}, {row(300, 3), true}, {row(1000000, 2), false}, {make([]impl.Span, 300), false},
	} {
		if got := impl.SpansOk(c.list); got != c.ok || slowSpansOk(c.list) != c.ok {
			t.Errorf("%v: %v", c.list[:min(len(c.list), 5)], got)
		}
	}
}

func TestBusyExamples(t *testing.T) {
	for _, c := range []struct{ list, want []impl.Span }{
		{nil, nil}, {[]impl.Span{}, nil}, {spansOf(1, 2), spansOf(1, 2)},
		{spansOf(30, 40, 5, 10), spansOf(5, 10, 30, 40)},
		{spansOf(5, 10, 10, 12), spansOf(5, 12)}, {spansOf(10, 12, 5, 10), spansOf(5, 12)}, {spansOf(5, 10, 11, 12), spansOf(5, 10, 11, 12)}, {spansOf(11, 12, 5, 10), spansOf(5, 10, 11, 12)}, {spansOf(5, 10, 9, 12), spansOf(5, 12)},
		{spansOf(5, 10, 12, 14, 10, 12), spansOf(5, 14)}, {spansOf(5, 20, 7, 9), spansOf(5, 20)}, {spansOf(7, 9, 5, 20), spansOf(5, 20)}, {spansOf(5, 20, 5, 9), spansOf(5, 20)}, {spansOf(5, 20, 9, 20), spansOf(5, 20)},
		{spansOf(5, 20, 5, 20), spansOf(5, 20)}, {spansOf(5, 20, 7, 9, 12, 25), spansOf(5, 25)}, {spansOf(5, 20, 7, 9, 20, 25, 26, 27), spansOf(5, 25, 26, 27)}, {spansOf(1, 5, 2, 3, 4, 8, 3, 4), spansOf(1, 8)},
		{spansOf(7, 7), nil}, {spansOf(9, 7), nil}, {spansOf(-1, 3), nil}, {spansOf(-1, 3, 4, 5), spansOf(4, 5)}, {spansOf(4, 5, 5, 5, 5, 4), spansOf(4, 5)},
		{spansOf(impl.TimeMax, impl.TimeMax+impl.LongMax, 0, impl.TimeMax), spansOf(0, impl.TimeMax+impl.LongMax)}, {spansOf(impl.TimeMax, impl.TimeMax+impl.LongMax+1, 0, impl.TimeMax), spansOf(0, impl.TimeMax)},
	} {
		if got := impl.Busy(c.list); !slices.Equal(got, c.want) {
			t.Errorf("%v: %v", c.list, got)
		}
		if got := impl.Busy(backward(c.list)); !slices.Equal(got, c.want) {
			t.Errorf("%v from the last to the first: %v", c.list, got)
		}
	}
}

// The first SpanMax that are ones count: what is none does not take the place of another one.
func TestBusyOfMany(t *testing.T) {
	all := row(302, 2)
	for _, n := range []int{1, 299, 300, 301, 302} {
		want := all[:min(n, 300)]
		if got := impl.Busy(all[:n]); !slices.Equal(got, want) || !impl.SpansOk(got) {
			t.Errorf("%d: %d", n, len(got))
		}
		for _, places := range [][]int{{0}, {0, 0, 0}, {n}, {n / 2}, {0, n / 2, n}, {n - 1}} {
			list := slices.Clone(all[:n])
			for _, place := range places {
				list = slices.Insert(list, place, impl.Span{From: 7, To: 7})
			}
			if got := impl.Busy(list); !slices.Equal(got, want) {
				t.Errorf("%d with none at %v: %d", n, places, len(got))
			}
		}
		if got := impl.Busy(backward(all[:n])); !slices.Equal(got, all[max(0, n-300):n]) {
			t.Errorf("%d from the last to the first: %d", n, len(got))
		}
	}
	none := make([]impl.Span, 100000)
	if got := impl.Busy(append(none, all...)); !slices.Equal(got, all[:300]) {
		t.Errorf("behind many that are none: %d", len(got))
	}
	same := slices.Repeat(spansOf(10, 20), 300)
	if got := impl.Busy(append(same, impl.Span{From: 30, To: 40})); !slices.Equal(got, spansOf(10, 20)) {
		t.Errorf("ones that are the same count, too: %v", got)
	}
	if got := impl.Busy(append(same[:299:299], impl.Span{From: 20, To: 40}, impl.Span{From: 40, To: 50})); !slices.Equal(got, spansOf(10, 40)) {
		t.Errorf("the last one counts: %v", got)
	}
	if got := impl.Busy(row(1000000, 1)); !slices.Equal(got, spansOf(0, 300)) {
		t.Errorf("that touch: %v", got)
	}
}

// allLists calls for each list of at most so many spans with small numbers, most of them none among them.
func allLists(most int, least int, greatest int, each func(list []impl.Span)) {
	var list []impl.Span
	var more func()
	more = func() {
		each(list)
		if len(list) == most {
			return
		}
		for from := least; from <= greatest; from++ {
			for to := least; to <= greatest; to++ {
				list = append(list, impl.Span{From: from, To: to})
				more()
				list = list[:len(list)-1]
			}
		}
	}
	more()
}

// checkBusy holds what is said of Busy and SpansOk against the minutes, one by one.
func checkBusy(t *testing.T, list []impl.Span, minutes []int) {
	t.Helper()
	busy := impl.Busy(list)
	if !slowSpansOk(busy) || !impl.SpansOk(busy) {
		t.Fatalf("%v: %v is not ok", list, busy)
	}
	taken := slowTaken(list)
	for _, minute := range minutes {
		if someHas(busy, minute) != someHas(taken, minute) {
			t.Fatalf("%v: %v at %d", list, busy, minute)
		}
	}
	if want := slowBusy(list); !slices.Equal(busy, want) {
		t.Fatalf("%v: %v, not %v", list, busy, want)
	}
	if again := impl.Busy(busy); !slices.Equal(again, busy) {
		t.Fatalf("%v: %v, and again %v", list, busy, again)
	}
	if ok := impl.SpansOk(list); ok != slowSpansOk(list) || ok != slices.Equal(busy, list) {
		t.Fatalf("%v: ok %v, busy %v", list, ok, busy)
	}
	if len(list) <= spansMost {
		if other := impl.Busy(backward(list)); !slices.Equal(other, busy) {
			t.Fatalf("%v: %v, from the last to the first %v", list, busy, other)
		}
	}
	if got := impl.SpanSize(list); got != slowSize(list) {
		t.Fatalf("%v: size %d", list, got)
	}
}

func minutesFrom(from int, to int) []int {
	var list []int
	for minute := from; minute < to; minute++ {
		list = append(list, minute)
	}
	return list
}

func TestBusyOfAllSmall(t *testing.T) {
	minutes := minutesFrom(-2, 7)
	allLists(3, -1, 5, func(list []impl.Span) { checkBusy(t, list, minutes) })
}

func TestBusyOfAllSorts(t *testing.T) {
	rng := rand.New(rand.NewSource(51))
	for i := range 4000 {
		n := rng.Intn(12)
		if i%40 == 0 {
			n = 250 + rng.Intn(150)
		}
		list := someSpans(rng, n, someAround(rng))
		var minutes []int
		for _, at := range edgesOf(list) {
			minutes = append(minutes, at-1, at, at+1)
		}
		checkBusy(t, list, minutes)
	}
}

// With a span more all is busy that was, and that span, and nothing else.
func TestBusyWithOneMore(t *testing.T) {
	rng := rand.New(rand.NewSource(55))
	for range 4000 {
		around := someAround(rng)
		list := someSpans(rng, rng.Intn(9), around)
		one := someSpans(rng, 1, around)[0]
		before := impl.Busy(list)
		for place := range len(list) + 1 {
			more := slices.Insert(slices.Clone(list), place, one)
			after := impl.Busy(more)
			for _, at := range edgesOf(more) {
				for minute := at - 1; minute <= at+1; minute++ {
					want := someHas(before, minute) || slowIsSpan(one) && someHas([]impl.Span{one}, minute)
					if someHas(after, minute) != want {
						t.Fatalf("%v and %v: %v at %d", list, one, after, minute)
					}
				}
			}
			if both := impl.Busy(append(slices.Clone(before), one)); !slices.Equal(both, after) {
				t.Fatalf("%v and %v: %v, not %v", list, one, after, both)
			}
		}
	}
}

func TestFreeExamples(t *testing.T) {
	list := spansOf(5, 12, 30, 50)
	for _, c := range []struct {
		from, to int
		want     []impl.Span
	}{
		{0, 60, spansOf(0, 5, 12, 30, 50, 60)}, {8, 33, spansOf(12, 30)}, {31, 32, nil}, {30, 50, nil}, {29, 51, spansOf(29, 30, 50, 51)}, {5, 12, nil},
		{12, 30, spansOf(12, 30)}, {11, 31, spansOf(12, 30)}, {13, 29, spansOf(13, 29)}, {12, 31, spansOf(12, 30)}, {11, 30, spansOf(12, 30)},
		{0, 5, spansOf(0, 5)}, {0, 6, spansOf(0, 5)}, {0, 4, spansOf(0, 4)}, {50, 60, spansOf(50, 60)}, {49, 60, spansOf(50, 60)}, {51, 60, spansOf(51, 60)},
		{0, 0, nil}, {5, 5, nil}, {20, 20, nil}, {40, 40, nil}, {12, 12, nil}, {60, 60, nil}, {12, 13, spansOf(12, 13)}, {29, 30, spansOf(29, 30)}, {20, 19, nil}, {60, 0, nil},
		{0, impl.TimeMax, spansOf(0, 5, 12, 30, 50, impl.TimeMax)}, {impl.TimeMax, impl.TimeMax, nil}, {impl.TimeMax - 1, impl.TimeMax, spansOf(impl.TimeMax-1, impl.TimeMax)},
		{0, impl.TimeMax + 1, nil}, {-1, 60, nil}, {-1, -1, nil}, {math.MinInt, math.MaxInt, nil}, {impl.TimeMax + 1, impl.TimeMax + 1, nil}, {math.MinInt, 0, nil}, {0, math.MaxInt, nil}, {math.MaxInt, math.MinInt, nil},
	} {
		if got := impl.Free(list, c.from, c.to); !slices.Equal(got, c.want) {
			t.Errorf("%d to %d: %v", c.from, c.to, got)
		}
		if got := slowFree(list, c.from, c.to); !slices.Equal(got, c.want) {
			t.Errorf("the long way %d to %d: %v", c.from, c.to, got)
		}
	}
	for _, none := range [][]impl.Span{nil, {}} {
		if got := impl.Free(none, 3, 9); !slices.Equal(got, spansOf(3, 9)) {
			t.Errorf("nothing is busy: %v", got)
		}
		if got := impl.Free(none, 3, 3); len(got) != 0 {
			t.Errorf("no minute: %v", got)
		}
	}
	if got := impl.Free(spansOf(impl.TimeMax, lastEnd), 0, impl.TimeMax); !slices.Equal(got, spansOf(0, impl.TimeMax)) {
		t.Errorf("at the end: %v", got)
	}
	if got := impl.Free(spansOf(0, lastEnd), 0, impl.TimeMax); len(got) != 0 {
		t.Errorf("all is busy: %v", got)
	}
}

// Between SpanMax spans, ahead of them and behind them all is free: one span more than these.
func TestFreeOfMany(t *testing.T) {
	list := row(300, 2)
	for i := range list {
		list[i].From++
		list[i].To++
	}
	if got := impl.Free(list, 0, 601); len(got) != 301 || !slices.Equal(got, row(301, 2)) {
		t.Errorf("%d", len(got))
	}
	if got := impl.SpanSize(list); got != 300 {
		t.Errorf("%d", got)
	}
	more := append(slices.Clone(list), impl.Span{From: 1000, To: 1001})
	if got := impl.Free(more, 0, 601); len(got) != 0 {
		t.Errorf("%v", got)
	}
	if got := impl.SpanSize(more); got != 0 {
		t.Errorf("%d", got)
	}
	if got := impl.SlotFirst(more, 0, 601, 1); got != -1 {
		t.Errorf("%d", got)
	}
}

// checkFree holds Free and SlotFirst against the minutes, one by one.
func checkFree(t *testing.T, list []impl.Span, from int, to int) {
	t.Helper()
	free := impl.Free(list, from, to)
	if want := slowFree(list, from, to); !slices.Equal(free, want) {
		t.Fatalf("%v from %d to %d: %v, not %v", list, from, to, free, want)
	}
	if !slowSpansOk(list) || !isTime(from) || !isTime(to) || from > to {
		if len(free) != 0 {
			t.Fatalf("%v from %d to %d: %v", list, from, to, free)
		}
		return
	}
	if len(free) <= spansMost && !impl.SpansOk(free) {
		t.Fatalf("%v from %d to %d: %v is not ok", list, from, to, free)
	}
	for _, at := range edgesOf(list, from, to) {
		for minute := at - 1; minute <= at+1; minute++ {
			if someHas(free, minute) != (minute >= from && minute < to && !someHas(list, minute)) {
				t.Fatalf("%v from %d to %d: %v at %d", list, from, to, free, minute)
			}
		}
	}
	rest := impl.Free(free, from, to)
	if len(free) <= spansMost && impl.SpanSize(free)+impl.SpanSize(rest) != to-from {
		t.Fatalf("%v from %d to %d: %v and %v", list, from, to, free, rest)
	}
}

func TestFreeOfAllSmall(t *testing.T) {
	allLists(2, -1, 6, func(list []impl.Span) {
		for from := -1; from <= 7; from++ {
			for to := -1; to <= 7; to++ {
				checkSmallFree(t, list, from, to)
			}
		}
	})
}

// checkSmallFree goes through all minutes there are, and all times at which something so long could begin.
func checkSmallFree(t *testing.T, list []impl.Span, from int, to int) {
	t.Helper()
	ok := slowSpansOk(list) && from >= 0 && from <= to
	free := impl.Free(list, from, to)
	for minute := -2; minute < 10; minute++ {
		if someHas(free, minute) != (ok && minute >= from && minute < to && !someHas(list, minute)) {
			t.Fatalf("%v from %d to %d: %v at %d", list, from, to, free, minute)
		}
	}
	if !slowSpansOk(free) {
		t.Fatalf("%v from %d to %d: %v is not ok", list, from, to, free)
	}
	for long := -1; long <= 9; long++ {
		want := -1
		for at := to - long; ok && long >= 1 && at >= from; at-- {
			if !slices.ContainsFunc(minutesFrom(at, at+long), func(minute int) bool { return someHas(list, minute) }) {
				want = at
			}
		}
		if got := impl.SlotFirst(list, from, to, long); got != want {
			t.Fatalf("%v from %d to %d, %d long: %d, not %d", list, from, to, long, got, want)
		}
	}
}

func TestFreeOfAllSorts(t *testing.T) {
	rng := rand.New(rand.NewSource(52))
	for i := range 4000 {
		n := rng.Intn(10)
		if i%40 == 0 {
			n = 100 + rng.Intn(200)
		}
		around := someAround(rng)
		list := someSpans(rng, n, around)
		if i%8 != 0 {
			list = impl.Busy(list)
		}
		for range 8 {
			from := around + rng.Intn(2000) - 1000
			to := from + rng.Intn(3000) - 5
			if edges := edgesOf(list); len(edges) > 0 && rng.Intn(2) == 0 {
				from = edges[rng.Intn(len(edges))] + rng.Intn(3) - 1
				to = edges[rng.Intn(len(edges))] + rng.Intn(3) - 1
			}
			checkFree(t, list, from, to)
			checkSlots(t, rng, list, from, to)
		}
	}
}

// checkSlots asks for what is free for so long: just as long as what is free there, a minute longer, or any length.
func checkSlots(t *testing.T, rng *rand.Rand, list []impl.Span, from int, to int) {
	t.Helper()
	longs := []int{0, 1, 2, impl.LongMax, impl.LongMax + 1, 1 + rng.Intn(3000)}
	for _, s := range slowFree(list, from, to) {
		longs = append(longs, s.To-s.From-1, s.To-s.From, s.To-s.From+1)
	}
	for _, long := range longs {
		at := impl.SlotFirst(list, from, to, long)
		if want := slowSlot(list, from, to, long); at != want {
			t.Fatalf("%v from %d to %d, %d long: %d, not %d", list, from, to, long, at, want)
		}
		if at < 0 {
			continue
		}
		if got := impl.SlotFirst(list, at, to, long); got != at {
			t.Fatalf("%v from %d to %d, %d long: %d, from there on %d", list, from, to, long, at, got)
		}
		if short := impl.SlotFirst(list, from, to, 1+rng.Intn(long)); short < from || short > at {
			t.Fatalf("%v from %d to %d, %d long: %d, shorter %d", list, from, to, long, at, short)
		}
		if got := impl.Free(list, at, at+long); at+long > to || !slices.Equal(got, spansOf(at, at+long)) {
			t.Fatalf("%v from %d to %d, %d long: %d is not free", list, from, to, long, at)
		}
	}
}

func TestSlotExamples(t *testing.T) {
	list := spansOf(5, 12, 30, 50)
	for _, c := range []struct{ from, to, long, want int }{
		{0, 60, 1, 0}, {0, 60, 5, 0}, {0, 60, 6, 12}, {0, 60, 18, 12}, {0, 60, 19, -1}, {0, 68, 18, 12}, {0, 68, 19, -1}, {0, 69, 19, 50}, {0, 68, 10, 12},
		{13, 60, 17, 13}, {13, 60, 18, -1}, {13, 67, 17, 13}, {14, 67, 17, 50}, {14, 66, 17, -1}, {5, 60, 1, 12}, {4, 60, 1, 4}, {4, 60, 2, 12}, {11, 60, 1, 12}, {12, 60, 1, 12},
		{12, 30, 18, 12}, {12, 29, 18, -1}, {12, 29, 17, 12}, {13, 30, 17, 13}, {30, 50, 1, -1}, {29, 50, 1, 29}, {30, 51, 1, 50}, {30, 51, 2, -1},
		{0, 0, 1, -1}, {20, 20, 1, -1}, {20, 21, 1, 20}, {20, 21, 2, -1}, {5, 4, 1, -1}, {21, 20, 1, -1}, {60, 60, 1, -1},
		{0, 60, 0, -1}, {0, 60, -1, -1}, {0, 60, math.MinInt, -1}, {0, 60, math.MaxInt, -1},
		{0, 50 + 20160, 20160, 50}, {0, 50 + 20159, 20160, -1}, {0, 100000, 20160, 50}, {0, 100000, 20161, -1}, {0, impl.TimeMax, 20160, 50}, {0, impl.TimeMax, 20161, -1},
		{impl.TimeMax - 20160, impl.TimeMax, 20160, impl.TimeMax - 20160}, {impl.TimeMax - 20159, impl.TimeMax, 20160, -1}, {impl.TimeMax, impl.TimeMax, 1, -1}, {impl.TimeMax - 1, impl.TimeMax, 1, impl.TimeMax - 1},
		{-1, 60, 1, -1}, {0, impl.TimeMax + 1, 1, -1}, {math.MinInt, math.MaxInt, 1, -1}, {math.MaxInt, math.MinInt, 1, -1}, {-1, -1, 1, -1},
	} {
		if got := impl.SlotFirst(list, c.from, c.to, c.long); got != c.want {
			t.Errorf("%d to %d, %d long: %d, not %d", c.from, c.to, c.long, got, c.want)
		}
	}
	for _, bad := range [][]impl.Span{spansOf(1, 2, 2, 3), spansOf(2, 2), spansOf(3, 4, 1, 2), spansOf(-1, 1), row(301, 2), spansOf(impl.TimeMax, lastEnd+1)} {
		if got := impl.SlotFirst(bad, 0, 10000, 1); got != -1 {
			t.Errorf("%v: %d", bad[:1], got)
		}
		if got := impl.Free(bad, 0, 10000); len(got) != 0 {
			t.Errorf("%v: %v", bad[:1], got)
		}
		if got := impl.SpanSize(bad); got != 0 {
			t.Errorf("%v: %v", bad[:1], got)
		}
	}
}

func TestSpanSize(t *testing.T) {
	for _, c := range []struct {
		list []impl.Span
		want int
	}{
		{nil, 0}, {[]impl.Span{}, 0}, {spansOf(5, 12, 30, 50), 27}, {spansOf(0, 1), 1}, {spansOf(0, lastEnd), lastEnd}, {spansOf(0, 10, 11, lastEnd), lastEnd - 1},
		{row(300, 2), 300}, {row(301, 2), 0}, {spansOf(1, 2, 2, 3), 0}, {spansOf(3, 4, 1, 2), 0}, {spansOf(1, 4, 5, 5), 0}, {spansOf(0, lastEnd+1), 0}, {spansOf(math.MinInt, math.MaxInt), 0},
	} {
		if got := impl.SpanSize(c.list); got != c.want {
			t.Errorf("%v: %d", c.list[:min(len(c.list), 5)], got)
		}
	}
}

func checkBusyOf(t *testing.T, zones []impl.Zone, events []impl.Event, from int, to int, want []impl.Span) {
	t.Helper()
	if got := impl.BusyOf(zones, events, from, to); !slices.Equal(got, want) {
		t.Errorf("%d events from %d to %d: %v, not %v", len(events), from, to, got, want)
	}
}

func TestBusyOfExamples(t *testing.T) {
	zones := named("utc")
	daily := impl.Event{Id: "a", Zone: "utc", Start: 1000000, Long: 60, Rule: impl.Rule{Freq: impl.FreqDay, Every: 1}}
	once := impl.Event{Id: "b", Zone: "utc", Start: 1000030, Long: 60}
	behind := impl.Event{Id: "c", Zone: "utc", Start: 1000090, Long: 10}
	later := impl.Event{Id: "d", Zone: "utc", Start: 1000101, Long: 10}
	list := []impl.Event{daily, once}
	for _, c := range []struct {
		events   []impl.Event
		from, to int
		want     []impl.Span
	}{
		{list, 1000010, 1001450, spansOf(1000010, 1000090, 1001440, 1001450)}, {[]impl.Event{once, {}, daily}, 1000010, 1001450, spansOf(1000010, 1000090, 1001440, 1001450)},
		{list, 1000000, 1001440, spansOf(1000000, 1000090)}, {list, 1000000, 1001441, spansOf(1000000, 1000090, 1001440, 1001441)}, {list, 1000089, 1000100, spansOf(1000089, 1000090)}, {list, 1000090, 1001440, nil},
		{list, 1000020, 1000025, spansOf(1000020, 1000025)}, {list, 1000020, 1000020, nil}, {list, 1000025, 1000020, nil}, {list, 999000, 1000000, nil}, {list, 999000, 1000001, spansOf(1000000, 1000001)},
		{[]impl.Event{once, behind}, 1000000, 1001000, spansOf(1000030, 1000100)}, {[]impl.Event{behind, once}, 1000000, 1001000, spansOf(1000030, 1000100)}, {[]impl.Event{once, behind, later}, 1000000, 1001000, spansOf(1000030, 1000100, 1000101, 1000111)},
		{[]impl.Event{daily, daily}, 1000000, 1000100, spansOf(1000000, 1000060)}, {nil, 0, impl.TimeMax, nil}, {[]impl.Event{}, 0, impl.TimeMax, nil}, {make([]impl.Event, 1000), 0, impl.TimeMax, nil},
		{list, -1, 1001450, nil}, {list, 1000010, impl.TimeMax + 1, nil}, {list, math.MinInt, math.MaxInt, nil}, {list, 1000010, -1, nil}, {list, math.MaxInt, math.MinInt, nil},
	} {
		checkBusyOf(t, zones, c.events, c.from, c.to, c.want)
	}
	for _, bad := range [][]impl.Zone{nil, named("utd"), named("utc", "utc"), named("utc", "a"), make([]impl.Zone, 7)} {
		checkBusyOf(t, bad, list, 1000010, 1001450, nil)
	}
	for _, bad := range []impl.Event{{Id: "b", Zone: "north", Start: 1000030, Long: 60}, {Id: "B", Zone: "utc", Start: 1000030, Long: 60}, {Id: "b", Zone: "utc", Start: 1000030, Long: 20161}, {Id: "b", Zone: "utc", Start: 1000030}} {
		checkBusyOf(t, zones, []impl.Event{bad}, 1000010, 1001450, nil)
		checkBusyOf(t, zones, []impl.Event{bad, daily}, 1000010, 1001450, spansOf(1000010, 1000060, 1001440, 1001450))
	}
}

// By dates, in a zone that turns: what is out is not busy, and what is moved is so where it is now.
func TestBusyOfChanges(t *testing.T) {
	zones, e := teaZones(t), tea(t)
	e.Outs = []int{mustTime(t, "2026-03-28T09:00")}
	e.Overs = []impl.Over{{At: mustTime(t, "2026-03-29T09:00"), Start: mustTime(t, "2026-03-29T10:30"), Long: 90}}
	text := ""
	for _, s := range impl.BusyOf(zones, []impl.Event{e}, mustTime(t, "2026-03-27T08:10"), mustTime(t, "2026-03-30T07:20")) {
		text += fmt.Sprintln(impl.TimeText(s.From), impl.TimeText(s.To))
	}
	if want := "2026-03-27T08:10 2026-03-27T08:30\n2026-03-29T08:30 2026-03-29T10:00\n2026-03-30T07:00 2026-03-30T07:20\n"; text != want {
		t.Error(text)
	}
}

// Of each event the first HitMax of EventHits count, of whatever many events.
func TestBusyOfManyHits(t *testing.T) {
	zones := named("utc")
	first := 1000 * dayMinutes
	daily := impl.Event{Id: "a", Zone: "utc", Start: first, Long: 60, Rule: impl.Rule{Freq: impl.FreqDay, Every: 1}}
	far := first + 300*dayMinutes
	var want []impl.Span
	for i := range 200 {
		want = append(want, spansOf(first+i*dayMinutes, first+i*dayMinutes+60)...)
	}
	checkBusyOf(t, zones, []impl.Event{daily}, first, far, want)
	checkBusyOf(t, zones, []impl.Event{daily}, first, first+200*dayMinutes, want)
	checkBusyOf(t, zones, []impl.Event{daily}, first, first+199*dayMinutes, want[:199])
	whole := daily
	whole.Long = dayMinutes
	checkBusyOf(t, zones, []impl.Event{whole}, first, far, spansOf(first, first+200*dayMinutes))
	longest := daily
	longest.Long = 20160
	checkBusyOf(t, zones, []impl.Event{longest}, first, far, spansOf(first, first+199*dayMinutes+20160))
	other := daily
	other.Id, other.Start = "b", first+120
	var both []impl.Span
	for i := range 199 {
		both = append(both, want[i], impl.Span{From: want[i].From + 120, To: want[i].To + 120})
	}
	checkBusyOf(t, zones, []impl.Event{daily, other}, first, first+199*dayMinutes, both)
	checkBusyOf(t, zones, []impl.Event{other, daily}, first, first+199*dayMinutes, both)
	if got := impl.BusyOf(zones, []impl.Event{daily, other}, first, far); len(got) != 400 {
		t.Errorf("%d", len(got))
	}
}

func TestBusyAtTheEnds(t *testing.T) {
	zones := []impl.Zone{{Name: "behind", Shift: -1440}, {Name: "utc"}}
	last := impl.TimeMax - 2*dayMinutes + 1
	e := impl.Event{Id: "a", Zone: "utc", Start: last - 20*dayMinutes, Long: 20160, Rule: impl.Rule{Freq: impl.FreqDay, Every: 1}}
	checkBusyOf(t, zones, []impl.Event{e}, impl.TimeMax-5, impl.TimeMax, spansOf(impl.TimeMax-5, impl.TimeMax))
	checkBusyOf(t, zones, []impl.Event{e}, impl.TimeMax, impl.TimeMax, nil)
	e.Long = 7
	checkBusyOf(t, zones, []impl.Event{e}, last+dayMinutes, impl.TimeMax, spansOf(last+dayMinutes, last+dayMinutes+7))
	e.Zone = "behind"
	hits := impl.EventHits(zones, e, 0, 100)
	if len(hits) != 1 || hits[0].From != -1 || hits[0].To != 6 {
		t.Fatal(hits)
	}
	checkBusyOf(t, zones, []impl.Event{e}, 0, 100, spansOf(0, 6))
	checkBusyOf(t, zones, []impl.Event{e}, 3, 100, spansOf(3, 6))
	checkBusyOf(t, zones, []impl.Event{e}, 0, 3, spansOf(0, 3))
	first := impl.Event{Id: "a", Zone: "utc", Start: firstBeginning, Long: 1}
	checkBusyOf(t, zones, []impl.Event{first}, 0, impl.TimeMax, spansOf(firstBeginning, firstBeginning+1))
}

// Some events of zones that turn, with rules and changes, one of them not ok at times, against all their hits.
func TestBusyOfAllEvents(t *testing.T) {
	rng := rand.New(rand.NewSource(53))
	for range 700 {
		zones, e, comes := someEvent(rng)
		events, times := []impl.Event{e}, [][]int{comes}
		for range rng.Intn(4) {
			f := impl.Event{Id: "b", Title: someTitle(rng), Start: toBeginning(e.Start + rng.Intn(8000) - 4000), Long: someLong(rng)}
			f, comes := someEventIn(rng, zones, f)
			if rng.Intn(8) == 0 {
				f.Title, comes = "\n", nil
			}
			events, times = append(events, f), append(times, comes)
		}
		for range 6 {
			from, to := someSpan(rng, zones, e, times[0])
			checkEventsBusy(t, zones, events, times, from, to)
		}
	}
}

func checkEventsBusy(t *testing.T, zones []impl.Zone, events []impl.Event, times [][]int, from int, to int) {
	t.Helper()
	busy := impl.BusyOf(zones, events, from, to)
	if want := slowBusyOf(zones, events, times, from, to); !slices.Equal(busy, want) {
		t.Fatalf("%s and %d others from %d to %d: %v, not %v", eventAt(events[0]), len(events)-1, from, to, busy, want)
	}
	var hits []impl.Hit
	for _, e := range events {
		hits = append(hits, impl.EventHits(zones, e, from, to)...)
	}
	for _, h := range hits {
		for _, minute := range []int{h.From - 1, h.From, h.To - 1, h.To, from - 1, from, to - 1, to} {
			is := slices.ContainsFunc(hits, func(h impl.Hit) bool { return h.From <= minute && minute < h.To })
			if someHas(busy, minute) != (is && from <= minute && minute < to) {
				t.Fatalf("%s and %d others from %d to %d: %v at %d", eventAt(events[0]), len(events)-1, from, to, busy, minute)
			}
		}
	}
	if len(busy) <= spansMost && !slowSpansOk(busy) {
		t.Fatalf("%v is not in order", busy)
	}
	slices.Reverse(events)
	if other := impl.BusyOf(zones, events, from, to); !slices.Equal(other, busy) {
		t.Fatalf("from the last to the first: %v, not %v", other, busy)
	}
	slices.Reverse(events)
}
