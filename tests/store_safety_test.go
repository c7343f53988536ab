package tests

import (
	"fmt"
	"math"
	"slices"
	"strings"
	"testing"

	"loop.example/ephemeris/impl"
)

// wildStores are stores of all sorts, most of them not ok.
func wildStores(t *testing.T) []impl.Store {
	list := []impl.Store{{}, {State: 1}, storeOf("a b", 2, "1b 1a")}
	for _, n := range append([]int{39, 40, 41, 999999, 1000000, 1000001}, wildInts...) {
		list = append(list, storeOf("", n, ""), storeOf("a", n, "1a"), storeOf("a", n, "2a"), storeOf("", n, "1a 3a"))
		list = append(list, impl.Store{Zones: named("utc"), Events: []impl.Event{plain("a")}, State: 2, Notes: []impl.Note{{Kind: n, Id: "a"}}})
		list = append(list, impl.Store{Zones: named("utc"), State: 2, Notes: []impl.Note{{Kind: n, Id: "a"}}})
		list = append(list, impl.Store{Zones: []impl.Zone{{Name: "utc", Shift: n}}, Events: []impl.Event{plain("a")}, State: 2})
		e := plain("a")
		e.Start, e.Long, e.Outs = n, n, []int{n}
		list = append(list, impl.Store{Zones: named("utc"), Events: []impl.Event{e}, State: 2})
	}
	for _, text := range []string{"", "\x00", "\xff", "é", "A", strings.Repeat("a", 100000)} {
		for kind := range 5 {
			list = append(list, impl.Store{State: 2, Notes: []impl.Note{{Kind: kind, Id: text}}})
			list = append(list, impl.Store{Zones: named("utc"), Events: []impl.Event{plain(text)}, State: 2, Notes: []impl.Note{{Kind: kind, Id: text}}})
		}
	}
	for _, size := range []int{6, 7, 12, 13, 40, 41, 1000, 100000} {
		list = append(list, impl.Store{Zones: make([]impl.Zone, size)}, impl.Store{Zones: named("utc"), Events: make([]impl.Event, size), State: 7})
		list = append(list, impl.Store{State: size, Notes: make([]impl.Note, size)}, impl.Store{State: 1000000, Notes: slices.Repeat(notesOf("3a 1a"), size)})
		list = append(list, impl.Store{Zones: named("utc"), Events: slices.Repeat([]impl.Event{plain("a")}, size), State: 7})
	}
	return list
}

// checkStoreCalls calls all of chapter 6 that takes a store; a panic ends the test.
func checkStoreCalls(t *testing.T, s impl.Store, e impl.Event, a int, b int) {
	t.Helper()
	ok := impl.StoreOk(s)
	put, putCode := impl.StorePut(s, e, a)
	gone, goneCode := impl.StoreGone(s, e.Id, b)
	got, there := impl.StoreGet(s, e.Id)
	news, known := impl.StoreNews(s, a, b)
	hits := impl.StoreHits(s, a, b)
	if !ok {
		if putCode != impl.StoreBad || goneCode != impl.StoreBad || there || known || len(hits) != 0 || !isNoStore(put) || !isNoStore(gone) || !isNothing(got) || !isNoNews(news) {
			t.Fatalf("%s with %d and %d", storeAt(s), a, b)
		}
		return
	}
	if !impl.StoreOk(put) || !impl.StoreOk(gone) || putCode != impl.StoreFine && !sameStore(put, s) || goneCode != impl.StoreFine && !sameStore(gone, s) {
		t.Fatalf("%s with %d and %d", storeAt(s), a, b)
	}
	if there != slices.Contains(idsOf(s), e.Id) || !there && !isNothing(got) || !known && !isNoNews(news) {
		t.Fatalf("%s with %d and %d", storeAt(s), a, b)
	}
	if want, is := slowNews(s, a, b); is != known || !sameNews(news, want) {
		t.Fatalf("%s with %d and %d: %+v", storeAt(s), a, b, news)
	}
}

func TestStoresNeverPanic(t *testing.T) {
	numbers := []int{math.MinInt, math.MinInt + 1, -1, 0, 1, 2, 3, 39, 40, 41, 999999, 1000000, 1000001, impl.TimeMax, impl.TimeMax + 1, math.MaxInt - 1, math.MaxInt}
	oks := 0
	for i, s := range wildStores(t) {
		ok := slowStoreOk(s)
		if impl.StoreOk(s) != ok {
			t.Fatalf("store %d, %s: %v", i, storeAt(s), !ok)
		}
		if ok {
			oks++
		}
		if len(s.Notes) > 50 || len(s.Zones) > 50 || len(s.Events) > 50 {
			checkStoreCalls(t, s, plain("a"), -1, 1)
			continue
		}
		for _, a := range numbers {
			for _, b := range numbers {
				checkStoreCalls(t, s, plain("a"), a, b)
			}
		}
	}
	if oks < 20 {
		t.Error(oks)
	}
}

func TestStoresWithWildParts(t *testing.T) {
	s := impl.Store{Zones: teaZones(t), Events: []impl.Event{tea(t)}, State: 7, Notes: notesOf("2tea 3b")}
	for _, e := range wildEvents(t) {
		ok := slowEventOk(s.Zones, e)
		checkStoreCalls(t, s, e, -1, 7)
		checkStoreCalls(t, s, e, 7, -1)
		if _, code := impl.StorePut(s, e, -1); (code == impl.StoreFine) != ok || !ok && code != impl.StoreBad {
			t.Fatalf("%s: %d", eventAt(e), code)
		}
		if _, code := impl.StoreGone(s, e.Id, -1); (code == impl.StoreNone) != (e.Id != "tea") {
			t.Fatalf("%s: %d", eventAt(e), code)
		}
	}
	for _, z := range wildZones() {
		ok := slowZoneOk(z)
		if fresh, is := impl.StoreNew([]impl.Zone{z}); is != ok || is && !sameZones(fresh.Zones, []impl.Zone{z}) || !is && !isNoStore(fresh) {
			t.Fatalf("%v: %v", z, is)
		}
		e := tea(t)
		e.Zone = z.Name
		one := impl.Store{Zones: []impl.Zone{z}, Events: []impl.Event{e}, State: 1}
		if impl.StoreOk(one) != ok {
			t.Fatalf("%v: %v", z, !ok)
		}
		checkStoreCalls(t, one, e, 1, 1)
	}
	for _, r := range wildRules() {
		e := tea(t)
		e.Rule = r
		checkStoreCalls(t, s, e, -1, 7)
		s.Events[0] = e
		checkStoreCalls(t, s, tea(t), 7, 1)
		s.Events[0] = tea(t)
	}
}

// roomyStore is a store that is ok, all of whose lists have something behind their ends, and some share their memory.
func roomyStore(t *testing.T) (impl.Store, impl.Event) {
	t.Helper()
	zones, e, all := roomyEvent(t)
	twin := zones[0]
	twin.Name = "twin"
	wholeZones := []impl.Zone{zones[0], twin, {Name: "utc"}, {Name: "bad", Shift: 7777, Turns: all.turns}, {Name: "bad"}}
	same := e
	same.Id, same.Title = "same", "shares"
	other := tea(t)
	other.Id, other.Zone = "other", "twin"
	wholeEvents := []impl.Event{other, same, e, {Id: "bad", Outs: all.ints[3]}, e}
	wholeNotes := append(notesOf("1x 3x 1same 1other 2same 1tea 2other"), notesOf("7bad 3tea 9")...)
	s := impl.Store{Zones: wholeZones[:3], Events: wholeEvents[:3], State: 9, Notes: wholeNotes[:7]}
	if !slowStoreOk(s) || !impl.StoreOk(s) {
		t.Fatal("what is behind the end counts", storeAt(s))
	}
	return s, e
}

// Nothing is written into an argument, or behind its end; an answer shares no memory with an argument, and none within it, with a code or without.
func TestStoreAnswersAreNew(t *testing.T) {
	s, e := roomyStore(t)
	fresh := e
	fresh.Id = "fresh"
	first := e
	first.Id = "0"
	bad := e
	bad.Long = 0
	full := s
	full.State = 1000000
	calls := []func() (impl.Store, int){
		func() (impl.Store, int) { return impl.StorePut(s, e, -1) },
		func() (impl.Store, int) { return impl.StorePut(s, fresh, 9) },
		func() (impl.Store, int) { return impl.StorePut(s, first, 9) },
		func() (impl.Store, int) { return impl.StorePut(s, bad, -1) },
		func() (impl.Store, int) { return impl.StorePut(s, fresh, 8) },
		func() (impl.Store, int) { return impl.StorePut(full, fresh, -1) },
		func() (impl.Store, int) { return impl.StoreGone(s, "tea", -1) },
		func() (impl.Store, int) { return impl.StoreGone(s, "other", 9) },
		func() (impl.Store, int) { return impl.StoreGone(s, "none", -1) },
		func() (impl.Store, int) { return impl.StoreGone(s, "tea", 10) },
		func() (impl.Store, int) { return impl.StoreGone(full, "tea", -1) },
	}
	wants := []int{0, 0, 0, 1, 4, 3, 0, 0, 2, 4, 3}
	before := wholeText(s) + wholeText(e)
	for i, call := range calls {
		one, code := call()
		other, _ := call()
		if code != wants[i] || !sameStore(one, other) {
			t.Fatalf("call %d: %d %s", i, code, storeAt(one))
		}
		if code != 0 && (!slices.EqualFunc(one.Events, s.Events, sameEvent) || !slices.Equal(one.Notes, s.Notes)) {
			t.Fatalf("call %d: %s", i, storeAt(one))
		}
		checkApart(t, one, s, e, other)
	}
	if after := wholeText(s) + wholeText(e); after != before {
		t.Errorf("changed:\n%s\n%s", before, after)
	}
}

func TestStoreAsksAreNew(t *testing.T) {
	s, e := roomyStore(t)
	before := wholeText(s)
	fresh, ok := impl.StoreNew(s.Zones)
	if !ok || !sameZones(fresh.Zones, s.Zones) {
		t.Fatal(storeAt(fresh))
	}
	checkApart(t, fresh, s)
	for _, id := range []string{"other", "same", "tea", "none"} {
		got, _ := impl.StoreGet(s, id)
		other, _ := impl.StoreGet(s, id)
		checkApart(t, got, s, other)
	}
	if got, ok := impl.StoreGet(s, "tea"); !ok || !sameEvent(got, e) {
		t.Error(eventAt(got))
	}
	for since := 2; since <= 9; since++ {
		for most := 1; most <= 8; most++ {
			news, ok := impl.StoreNews(s, since, most)
			other, _ := impl.StoreNews(s, since, most)
			if !ok || !sameNews(news, other) {
				t.Fatalf("since %d: %+v", since, news)
			}
			checkApart(t, news, s, other)
		}
	}
	hits, others := impl.StoreHits(s, 0, impl.TimeMax), impl.StoreHits(s, 0, impl.TimeMax)
	if len(hits) != 200 || !slices.Equal(hits, others) {
		t.Fatal(len(hits))
	}
	checkApart(t, hits, s, others)
	if after := wholeText(s); after != before {
		t.Errorf("changed:\n%s\n%s", before, after)
	}
}

// A store that is full of notes, and of events, with room behind: what is put and taken goes into new memory.
func TestFullStoreIsNotChanged(t *testing.T) {
	s := impl.Store{Zones: named("utc"), State: 52, Events: make([]impl.Event, 0, 30), Notes: make([]impl.Note, 0, 60)}
	for i := range 12 {
		s.Events = append(s.Events, plain(fmt.Sprintf("n%02d", i)))
	}
	for i := range 40 {
		s.Notes = append(s.Notes, impl.Note{Kind: 2, Id: s.Events[i%12].Id})
	}
	before := wholeText(s)
	for _, e := range s.Events {
		put, code := impl.StorePut(s, e, 52)
		gone, other := impl.StoreGone(s, e.Id, 52)
		if code != 0 || other != 0 || len(put.Notes) != 40 || len(gone.Notes) != 40 || len(gone.Events) != 11 {
			t.Fatal(storeAt(put), storeAt(gone))
		}
		checkApart(t, put, s, gone)
		checkApart(t, gone, s, put)
	}
	if after := wholeText(s); after != before {
		t.Errorf("changed:\n%s\n%s", before, after)
	}
}

// The empty lists and none at all are the same.
func TestStoreEmptyIsNil(t *testing.T) {
	none := impl.Store{Zones: named("utc")}
	empty := impl.Store{Zones: named("utc"), Events: []impl.Event{}, Notes: []impl.Note{}}
	empty.Zones[0].Turns = []impl.Turn{}
	e, bare := plain("a"), plain("a")
	e.Outs, e.Overs, e.Rule.Days, e.Rule.Dates = []int{}, []impl.Over{}, []impl.By{}, []int{}
	a, code := impl.StorePut(none, bare, 0)
	b, other := impl.StorePut(empty, e, 0)
	if code != 0 || other != 0 || !sameStore(a, b) || !impl.StoreOk(empty) {
		t.Error(code, other)
	}
	if fresh, ok := impl.StoreNew([]impl.Zone{}); !ok || !isNoStore(fresh) {
		t.Error(ok)
	}
	news, ok := impl.StoreNews(empty, 0, 1)
	if !ok || !isNoNews(news) || len(impl.StoreHits(empty, 0, impl.TimeMax)) != 0 {
		t.Error(news)
	}
}
