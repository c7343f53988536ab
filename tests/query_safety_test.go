package tests

import (
	"math"
	"slices"
	"strings"
	"testing"

	"loop.example/ephemeris/impl"
)

// The document's names, as they must stay.
var (
	_ func(string, string) bool                            = impl.TextIn
	_ func(impl.Store, impl.Filter) []impl.Found           = impl.Find
	_ func([]impl.Found) bool                              = impl.FoundOk
	_ func([]impl.Found, []impl.Found) impl.Turned         = impl.FindNews
	_ func([]impl.Found, impl.Turned) ([]impl.Found, bool) = impl.FindDo
	_ func(impl.Event, impl.Event) []impl.Patch            = impl.PatchOf
	_ func(impl.Event, []impl.Patch) (impl.Event, bool)    = impl.PatchDo
	_ func([]impl.Patch, []impl.Patch) []impl.Patch        = impl.PatchBoth
)

func TestTextInNeverPanics(t *testing.T) {
	texts := []string{"", "a", "A", "\x00", "\xff", "é", "\xe2\x28\xa1", strings.Repeat("a", 100000), strings.Repeat("Ab", 50000), strings.Repeat("\xff", 1000)}
	for _, text := range texts {
		for _, part := range texts {
			if got := impl.TextIn(text, part); got != strings.Contains(strings.ReplaceAll(strings.ReplaceAll(text, "A", "a"), "B", "b"), strings.ReplaceAll(strings.ReplaceAll(part, "A", "a"), "B", "b")) {
				t.Errorf("%.9q in %.9q: %v", part, text, got)
			}
		}
	}
}

func TestFindNeverPanics(t *testing.T) {
	numbers := []int{math.MinInt, -1, 0, 2880, 1000000, impl.TimeMax, impl.TimeMax + 1, math.MaxInt}
	for i, s := range wildStores(t) {
		ok := slowStoreOk(s)
		for _, from := range numbers {
			for _, to := range numbers {
				got := impl.Find(s, impl.Filter{Text: []string{"", "x", "\xff"}[i%3], From: from, To: to})
				if len(got) > 0 && (!ok || !isTime(from) || !isTime(to)) || !impl.FoundOk(got) {
					t.Fatalf("store %d, %s from %d to %d: %v", i, storeAt(s), from, to, got)
				}
			}
			if len(s.Notes)+len(s.Events)+len(s.Zones) > 50 {
				break
			}
		}
	}
	for _, e := range wildEvents(t) {
		s := impl.Store{Zones: teaZones(t), Events: []impl.Event{e}, State: 7}
		got := impl.Find(s, impl.Filter{From: 0, To: impl.TimeMax})
		if len(got) > 0 && !slowEventOk(s.Zones, e) {
			t.Fatalf("%s: %v", eventAt(e), got)
		}
	}
	for _, z := range wildZones() {
		e := tea(t)
		e.Zone = z.Name
		s := impl.Store{Zones: []impl.Zone{z}, Events: []impl.Event{e}, State: 7}
		if got := impl.Find(s, impl.Filter{From: 0, To: impl.TimeMax}); (len(got) == 1) != slowZoneOk(z) {
			t.Fatalf("%v: %v", z, got)
		}
	}
}

// wildFound are lists of all sorts, most of them not ok.
func wildFound() [][]impl.Found {
	list := [][]impl.Found{nil, {}, foundOf("a 1 b 2"), foundOf("b 2 a 1")}
	for _, n := range wildInts {
		list = append(list, []impl.Found{{Id: "a", At: n}}, []impl.Found{{Id: "a", At: n}, {Id: "b", At: 0}}, []impl.Found{{Id: "a", At: 0}, {Id: "b", At: n}})
	}
	for _, text := range []string{"", "\x00", "\xff", "é", "A", strings.Repeat("a", 100000)} {
		list = append(list, []impl.Found{{Id: text}}, []impl.Found{{Id: "a"}, {Id: text, At: 1}})
	}
	for _, size := range []int{2, 12, 13, 1000, 1000000} {
		list = append(list, make([]impl.Found, size), slices.Repeat(foundOf("a 1"), size))
	}
	return list
}

func TestTurnedNeverPanics(t *testing.T) {
	wild := wildFound()
	var places [][]int
	for _, n := range wildInts {
		places = append(places, []int{n}, []int{0, n}, []int{n, 0})
	}
	for i, old := range wild {
		if impl.FoundOk(old) != slowFoundOk(old) {
			t.Fatalf("%d: %v", i, impl.FoundOk(old))
		}
		for k, fresh := range wild {
			if len(old)+len(fresh) < 5000 || i%5 == k%5 {
				checkTurned(t, old, fresh)
			}
			turn := impl.Turned{Gone: []string{"a", "b", "z"}[i%3 : 1+i%3], Come: fresh, At: places[(i+k)%len(places)]}
			checkFindDo(t, old, turn)
			turn.Gone, turn.At = nil, make([]int, len(fresh))
			checkFindDo(t, old, turn)
		}
	}
	for _, size := range []int{13, 1000, 1000000} {
		checkFindDo(t, foundOf("a 1 b 2"), impl.Turned{Gone: make([]string, size)})
		checkFindDo(t, foundOf("a 1 b 2"), impl.Turned{Gone: slices.Repeat([]string{"a"}, size)})
		checkFindDo(t, foundOf("a 1 b 2"), impl.Turned{At: make([]int, size)})
		checkFindDo(t, foundOf("a 1 b 2"), impl.Turned{Come: slices.Repeat(foundOf("c 3"), size), At: make([]int, size)})
	}
}

func TestPatchesNeverPanic(t *testing.T) {
	wild := wildEvents(t)
	e := tea(t)
	texts := []string{"", "\x00", "\xff", "|", ";", ",", ";;;|", "-", "+", "99999999999999999999", "-9223372036854775808", "FREQ=", strings.Repeat("a", 1000000), strings.Repeat("|", 100000), strings.Repeat(";", 100000), strings.Repeat(",", 100000), strings.Repeat("9", 100000), strings.Repeat("2026-03-27T09:00,", 10000), strings.Repeat("2026-03-27T09:00;2026-03-27T09:00;5;x|", 10000)}
	for _, f := range wild {
		for _, p := range slowFields(tea(t)) {
			impl.PatchDo(f, []impl.Patch{p, p})
		}
	}
	for _, p := range slowFields(e) {
		for _, text := range texts {
			checkPatchDo(t, e, []impl.Patch{{Field: p.Field, Text: text}})
			checkPatchDo(t, e, []impl.Patch{{Field: text, Text: p.Text}})
			impl.PatchBoth([]impl.Patch{{Field: text, Text: text}}, []impl.Patch{{Field: p.Field}})
		}
	}
	for i, f := range wild {
		checkPatchOf(t, f, wild[(i*7+3)%len(wild)])
	}
	for _, r := range wildRules() {
		f := tea(t)
		f.Rule = r
		checkPatchOf(t, e, f)
		checkPatchDo(t, f, nil)
	}
	for _, size := range []int{1000, 1000000} {
		impl.PatchDo(e, make([]impl.Patch, size))
		if got := impl.PatchBoth(make([]impl.Patch, size), make([]impl.Patch, size)); len(got) != 1 {
			t.Error(len(got))
		}
	}
}

// Nothing is written into an argument, or behind its end, and an answer shares no memory with an argument, nor two lists of it with each other.
func TestFoundIsNew(t *testing.T) {
	s, _ := roomyStore(t)
	wholeOld, wholeFresh := foundOf("a 1 b 2 c 3 z 9 z 9"), foundOf("b 1 a 2 c 3 d 4 z 9 z 9")
	old, fresh := wholeOld[:3], wholeFresh[:4]
	wholeGone, wholeCome, wholeAt := []string{"b", "a", "zz"}, foundOf("a 4 d 5 zz 9"), []int{1, 2, 777}
	turn := impl.Turned{Gone: wholeGone[:2], Come: wholeCome[:2], At: wholeAt[:2]}
	bad := turn
	bad.At = wholeAt[:1]
	before := wholeText(s) + wholeText(wholeOld) + wholeText(wholeFresh) + wholeText(turn)
	for i, call := range []func() any{
		func() any { return impl.Find(s, impl.Filter{From: 0, To: impl.TimeMax}) },
		func() any { return impl.FindNews(old, fresh) },
		func() any { return impl.FindNews(fresh, old) },
		func() any { next, _ := impl.FindDo(old, turn); return next },
		func() any { next, _ := impl.FindDo(old, bad); return next },
		func() any { next, _ := impl.FindDo(old, impl.Turned{}); return next },
		func() any {
			next, _ := impl.FindDo(nil, impl.Turned{Come: wholeCome[:2], At: []int{0, 1}})
			return next
		},
	} {
		one, two := call(), call()
		text := wholeText(two)
		if !strings.Contains(text, "{") {
			t.Fatalf("call %d: %s", i, text)
		}
		checkApart(t, one, s, wholeOld, wholeFresh, wholeGone, wholeCome, wholeAt, two)
		scribbleAny(one)
		if wholeText(two) != text || wholeText(call()) != text {
			t.Errorf("call %d: shared, or kept", i)
		}
		if after := wholeText(s) + wholeText(wholeOld) + wholeText(wholeFresh) + wholeText(turn); after != before {
			t.Fatalf("call %d changed:\n%s\n%s", i, before, after)
		}
	}
	if got, ok := impl.FindDo(old, turn); !ok || !slices.Equal(got, foundOf("c 3 a 4 d 5")) {
		t.Error(got, ok)
	}
}

func TestPatchesAreNew(t *testing.T) {
	_, e, _ := roomyEvent(t)
	other := copyEvent(tea(t))
	list := append(slowFields(e), impl.Patch{Field: "long", Text: "9"}, impl.Patch{Field: "behind"})
	before := wholeText(e) + wholeText(other) + wholeText(list)
	for i, call := range []func() any{
		func() any { return impl.PatchOf(other, e) },
		func() any { return impl.PatchOf(e, other) },
		func() any { got, _ := impl.PatchDo(other, list[:8]); return got },
		func() any { got, _ := impl.PatchDo(e, list[:9]); return got },
		func() any { got, _ := impl.PatchDo(e, nil); return got },
		func() any { got, _ := impl.PatchDo(e, list); return got },
		func() any { got, _ := impl.PatchDo(e, slices.Repeat(list[:1], 17)); return got },
		func() any { return impl.PatchBoth(list[:4], list[:9]) },
		func() any { return impl.PatchBoth(list[:4], nil) },
		func() any { return impl.PatchBoth(nil, list[:4]) },
	} {
		one, two := call(), call()
		text := wholeText(two)
		if !strings.Contains(text, "{") {
			t.Fatalf("call %d: %s", i, text)
		}
		checkApart(t, one, e, other, list, two)
		scribbleAny(one)
		if wholeText(two) != text || wholeText(call()) != text {
			t.Errorf("call %d: shared, or kept", i)
		}
		if after := wholeText(e) + wholeText(other) + wholeText(list); after != before {
			t.Fatalf("call %d changed:\n%s\n%s", i, before, after)
		}
	}
}

// The empty lists and none at all are the same.
func TestQueryEmptyIsNil(t *testing.T) {
	if !sameTurned(impl.FindNews(nil, []impl.Found{}), impl.Turned{}) || !sameTurned(impl.FindNews([]impl.Found{}, nil), impl.Turned{}) {
		t.Error("news")
	}
	if got, ok := impl.FindDo([]impl.Found{}, impl.Turned{Gone: []string{}, Come: []impl.Found{}, At: []int{}}); !ok || len(got) != 0 {
		t.Error(got, ok)
	}
	none := tea(t)
	empty := copyEvent(none)
	empty.Outs, empty.Overs = []int{}, []impl.Over{}
	empty.Rule.Days, empty.Rule.Dates, empty.Rule.Months, empty.Rule.Places = []impl.By{}, []int{}, []int{}, []int{}
	if list := append(impl.PatchOf(none, empty), impl.PatchOf(empty, none)...); len(list) != 0 {
		t.Error(list)
	}
	if got, ok := impl.PatchDo(empty, []impl.Patch{}); !ok || !sameEvent(got, none) {
		t.Error(eventAt(got), ok)
	}
	if got := impl.PatchBoth([]impl.Patch{}, nil); len(got) != 0 {
		t.Error(got)
	}
}
