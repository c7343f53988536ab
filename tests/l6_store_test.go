package tests

import (
	"fmt"
	"math"
	"math/rand"
	"slices"
	"strings"
	"testing"

	"loop.example/ephemeris/impl"
)

func TestStoreLimits(t *testing.T) {
	if impl.ItemMax != 12 || impl.NoteMax != 40 {
		t.Error(impl.ItemMax, impl.NoteMax)
	}
	if impl.StoreFine != 0 || impl.StoreBad != 1 || impl.StoreNone != 2 || impl.StoreFull != 3 || impl.StoreState != 4 {
		t.Error("codes")
	}
}

func TestStoreNew(t *testing.T) {
	for i, zones := range [][]impl.Zone{nil, {}, named("utc"), teaZones(t), named("a", "b", "c", "d", "e", "f"), {{Name: "z", Shift: -1440, Turns: turnsFrom(0, 1, 2, 3, 4, 5, 6, 7, 8)}}} {
		s, ok := impl.StoreNew(zones)
		if !ok || !sameStore(s, impl.Store{Zones: zones}) || !impl.StoreOk(s) || !slowStoreOk(s) {
			t.Errorf("zones %d: %v %s", i, ok, storeAt(s))
		}
		for _, most := range []int{1, 2, 40, math.MaxInt} {
			if news, ok := impl.StoreNews(s, 0, most); !ok || !isNoNews(news) {
				t.Errorf("zones %d: %v %+v", i, ok, news)
			}
		}
		if hits := impl.StoreHits(s, 0, impl.TimeMax); len(hits) != 0 {
			t.Errorf("zones %d: %v", i, hits)
		}
		if e, ok := impl.StoreGet(s, "tea"); ok || !isNothing(e) {
			t.Errorf("zones %d: %v", i, ok)
		}
		if next, code := impl.StoreGone(s, "tea", -1); code != impl.StoreNone || !sameStore(next, s) {
			t.Errorf("zones %d: %d", i, code)
		}
	}
	for i, zones := range [][]impl.Zone{named("b", "a"), named("a", "a"), named(""), named("A"), named("a", "b", "c", "d", "e", "f", "g"), {{Name: "a", Shift: 1441}}, {{Name: "a", Turns: turnsFrom(0, 1, 2, 3, 4, 5, 6, 7, 8, 9)}}, make([]impl.Zone, 1000000)} {
		if s, ok := impl.StoreNew(zones); ok || !isNoStore(s) {
			t.Errorf("zones %d: %v %s", i, ok, storeAt(s))
		}
	}
}

// checkStoreOk asks all of chapter 6 whether a store is ok.
func checkStoreOk(t *testing.T, s impl.Store, want bool) {
	t.Helper()
	if slowStoreOk(s) != want {
		t.Errorf("%s: the test's own answer is %v", storeAt(s), !want)
	}
	if impl.StoreOk(s) != want {
		t.Errorf("%s: %v", storeAt(s), !want)
	}
	if want {
		return
	}
	if next, code := impl.StorePut(s, plain("new"), -1); code != impl.StoreBad || !isNoStore(next) {
		t.Errorf("%s: put %d %s", storeAt(s), code, storeAt(next))
	}
	for _, id := range append(idsOf(s), "none") {
		if next, code := impl.StoreGone(s, id, -1); code != impl.StoreBad || !isNoStore(next) {
			t.Errorf("%s: gone %d %s", storeAt(s), code, storeAt(next))
		}
		if e, ok := impl.StoreGet(s, id); ok || !isNothing(e) {
			t.Errorf("%s: got %s", storeAt(s), id)
		}
	}
	for _, since := range []int{0, s.State - 1, s.State} {
		if news, ok := impl.StoreNews(s, since, 9); ok || !isNoNews(news) {
			t.Errorf("%s: %v %+v", storeAt(s), ok, news)
		}
	}
	if hits := impl.StoreHits(s, 0, impl.TimeMax); len(hits) != 0 {
		t.Errorf("%s: %v", storeAt(s), hits)
	}
}

const twelve = "a b c d e f g h i j k l"

func TestStoreOkNotes(t *testing.T) {
	for _, c := range []struct {
		ids   string
		state int
		notes string
		ok    bool
	}{
		{"", 0, "", true}, {"", 1, "", true}, {"a", 1, "", true}, {"a", 0, "", false}, {"", -1, "", false}, {"a", -1, "", false},
		{"a", 1, "1a", true}, {"a", 0, "1a", false}, {"a", 2, "1a", true}, {"a", -1, "1a", false}, {"", 1, "1a", false}, {"b", 1, "1a", false}, {"b", 2, "1a", false}, {"a b", 1, "1a", false}, {"a b", 2, "1a", true},
		{"a", 1, "2a", false}, {"a", 2, "2a", true}, {"", 2, "2a", false}, {"b", 2, "2a", false}, {"a", 2, "1a 2a", true}, {"a", 2, "2a 1a", false}, {"a", 3, "2a 1a", false}, {"a", 2, "2a 2a", false}, {"a", 3, "2a 2a", true},
		{"", 1, "3a", false}, {"", 2, "3a", true}, {"a", 2, "3a", false}, {"a", 5, "3a", false}, {"b", 2, "3a", true}, {"", 2, "1a 3a", true}, {"a", 2, "1a 3a", false}, {"a", 2, "3a 1a", false}, {"a", 3, "3a 1a", true}, {"", 3, "3a 3a", false}, {"a", 3, "1a 1a", false},
		{"a", 3, "1a 3a 1a", true}, {"", 3, "1a 2a 3a", true}, {"a", 4, "1a 2a 3a 1a", true}, {"", 4, "1a 3a 2a 3a", false}, {"a", 4, "1a 3a 2a 1a", false}, {"", 4, "3a 1a 2a 3a", false}, {"", 5, "3a 1a 2a 3a", true},
		{"a b", 2, "1a 1b", true}, {"a b", 2, "1b 1a", true}, {"a b", 3, "1b 1a 2b", true}, {"a b", 3, "2b 1a 1b", false}, {"b", 3, "1a 1b 3a", true}, {"b", 3, "1b 1a 3a", true}, {"b", 3, "3a 1a 1b", false}, {"a b", 3, "3a 1a 1b", false}, {"a b", 4, "3a 1a 1b", true}, {"a b", 4, "3a 1b 1a", true},
		{"a", 1, "0a", false}, {"a", 2, "0a", false}, {"a", 2, "4a", false}, {"", 2, "0a", false}, {"", 2, "4a", false}, {"", 2, "9a", false}, {"a", 3, "0a 1a", false}, {"a", 3, "1a 0a", false},
		{"", 2, "3", false}, {"", 2, "3A", false}, {"", 2, "3abcdefgh", true}, {"", 2, "3abcdefghi", false}, {"", 2, "3a-b", false}, {"", 3, "1 3", false}, {"", 3, "1A 3A", false}, {"", 2, "30", true}, {"", 2, "1é", false}, {"", 2, "2\xff", false},
		{"b a", 2, "1a 1b", false}, {"b a", 9, "", false}, {"a a", 9, "", false}, {"a a", 2, "1a 1a", false}, {"a ab b", 9, "", true}, {"ab a", 9, "", false}, {"0 a", 9, "", true}, {"a 0", 9, "", false}, {"a b b", 9, "", false}, {"10 9", 9, "", true}, {"9 10", 9, "", false},
		{"A", 9, "", false}, {"abcdefghi", 9, "", false}, {"abcdefgh", 9, "", true},
		{"a", 1000000, "", true}, {"a", 1000000, "1a", true}, {"a", 1000001, "1a", false}, {"", 1000001, "", false}, {"a", 999999, "2a", true}, {"", math.MaxInt, "", false}, {"", math.MinInt, "", false}, {"a", math.MinInt, "1a", false}, {"a", math.MaxInt, "1a", false},
		{twelve, 12, "", true}, {twelve + " m", 13, "", false}, {twelve, 0, "", false}, {twelve, 13, "3m", false}, {twelve, 20, "3m 1a", true}, {twelve, 20, "1a 3m", false}, {twelve, 20, "3n 3m 1a", false}, {twelve, 20, "3n 1b 3m 1a", true}, {twelve, 20, "3n 3m 1b 1a", true}, {twelve, 20, "3o 3n 3m 1b 1a", false},
		{"b c d e f g h i j k l", 20, "3a", true}, {"b c d e f g h i j k l", 20, "3a 3m", false}, {"b c d e f g h i j k l", 20, "3m 1a 3a", true}, {"b c d e f g h i j k l", 20, "3m 3a", false}, {"b c d e f g h i j k l", 20, "3a 2b", true}, {"b c d e f g h i j k l", 20, "3a 2b 3m", false},
	} {
		checkStoreOk(t, storeOf(c.ids, c.state, c.notes), c.ok)
	}
}

// What is ok of zones, and of events, must be so of those of a store.
func TestStoreOkItems(t *testing.T) {
	zones := teaZones(t)
	checkStoreOk(t, impl.Store{}, true)
	checkStoreOk(t, impl.Store{Zones: zones, Events: []impl.Event{tea(t)}, State: 3}, true)
	checkStoreOk(t, impl.Store{Zones: zones[1:], Events: []impl.Event{tea(t)}, State: 3}, false)
	checkStoreOk(t, impl.Store{Events: []impl.Event{tea(t)}, State: 3}, false)
	checkStoreOk(t, impl.Store{Zones: named("utc", "north"), Events: []impl.Event{tea(t)}, State: 3}, false)
	checkStoreOk(t, impl.Store{Zones: named("utc", "north")}, false)
	checkStoreOk(t, impl.Store{Zones: named("north", "north")}, false)
	checkStoreOk(t, impl.Store{Zones: named("a", "b", "c", "d", "e", "f")}, true)
	checkStoreOk(t, impl.Store{Zones: named("a", "b", "c", "d", "e", "f", "g")}, false)
	checkStoreOk(t, impl.Store{Zones: []impl.Zone{{Name: "a", Shift: 1441}}}, false)
	for i, e := range wildEvents(t) {
		ok := slowEventOk(zones, e)
		s := impl.Store{Zones: zones, State: 7}
		for _, id := range []string{"a", "z"} {
			other := tea(t)
			other.Id = id
			s.Events = append(s.Events, other)
		}
		s.Events = slices.Insert(s.Events, 1, e)
		if got := impl.StoreOk(s); got != (ok && e.Id > "a" && e.Id < "z") {
			t.Errorf("event %d: %v %s", i, got, eventAt(e))
		}
		checkStoreOk(t, impl.Store{Zones: zones, Events: []impl.Event{e}, State: 7}, ok)
	}
}

// longNotes is so many notes of one name: made, and changed again and again.
func longNotes(count int) []impl.Note {
	notes := slices.Repeat([]impl.Note{{Kind: 2, Id: "a"}}, count)
	if count > 0 {
		notes[0].Kind = 1
	}
	return notes
}

func TestStoreOkOfMany(t *testing.T) {
	for _, count := range []int{1, 39, 40, 41, 42, 100, 1000000} {
		for _, more := range []int{-1, 0, 1, 2} {
			s := storeOf("a", count+more, "")
			s.Notes = longNotes(count)
			checkStoreOk(t, s, count <= 40 && more >= 0)
			s.Notes[0].Kind = 2
			checkStoreOk(t, s, count <= 40 && more >= 1)
		}
	}
	for _, count := range []int{11, 12, 13, 14, 100, 100000} {
		s := impl.Store{Zones: named("utc"), State: 5}
		for i := range count {
			s.Events = append(s.Events, plain(fmt.Sprintf("n%06d", i)))
		}
		if got := impl.StoreOk(s); got != (count <= 12) {
			t.Errorf("%d events: %v", count, got)
		}
	}
	s := impl.Store{Zones: named("utc"), State: 100}
	for count := range 40 {
		if got := impl.StoreOk(s); got != (count <= 12) {
			t.Errorf("%d were gone: %v", count, got)
		}
		s.Notes = append(s.Notes, impl.Note{Kind: 3, Id: fmt.Sprintf("n%d", count)})
	}
}

// allNotes calls for each list of at most so many notes of some kinds and names.
func allNotes(most int, kinds int, ids []string, each func(notes []impl.Note)) {
	var notes []impl.Note
	var more func()
	more = func() {
		each(notes)
		if len(notes) == most {
			return
		}
		for kind := range kinds {
			for _, id := range ids {
				notes = append(notes, impl.Note{Kind: kind, Id: id})
				more()
				notes = notes[:len(notes)-1]
			}
		}
	}
	more()
}

func TestStoreOkOfAllSmall(t *testing.T) {
	for _, ids := range []string{"", "a", "b", "a b"} {
		s := storeOf(ids, 0, "")
		check := func(notes []impl.Note) {
			s.Notes = notes
			for s.State = len(notes) - 1; s.State <= len(notes)+2; s.State++ {
				if got := impl.StoreOk(s); got != slowStoreOk(s) {
					t.Fatalf("%s: %v", storeAt(s), got)
				}
			}
		}
		allNotes(3, 5, []string{"a", "b", "", "c"}, check)
		allNotes(5, 4, []string{"a", "b"}, func(notes []impl.Note) {
			if !slices.ContainsFunc(notes, func(n impl.Note) bool { return n.Kind == 0 }) {
				check(notes)
			}
		})
	}
}

// checkNews asks for what is new since each state, with each most.
func checkNews(t *testing.T, s impl.Store) {
	t.Helper()
	forgotten := s.State - len(s.Notes)
	for since := forgotten - 2; since <= s.State+2; since++ {
		for most := -1; most <= len(s.Notes)+1; most++ {
			want, known := slowNews(s, since, most)
			if got, ok := impl.StoreNews(s, since, most); ok != known || !sameNews(got, want) {
				t.Fatalf("%s, since %d, most %d: %v %+v, not %v %+v", storeAt(s), since, most, ok, got, known, want)
			}
		}
	}
}

// All that can happen to a store of two names within some notes, behind states that are known, or not.
func TestNewsOfAllSmall(t *testing.T) {
	oks := 0
	for _, ids := range []string{"", "a", "b", "a b"} {
		s := storeOf(ids, 0, "")
		allNotes(5, 4, []string{"a", "b"}, func(notes []impl.Note) {
			s.Notes = notes
			for _, more := range []int{0, 1} {
				if s.State = len(notes) + more; slowStoreOk(s) {
					checkNews(t, s)
					oks++
				}
			}
		})
	}
	if oks < 500 {
		t.Error(oks)
	}
}

func TestNewsExamples(t *testing.T) {
	for _, c := range []struct {
		notes               string
		since, most         int
		made, changed, gone string
		state               int
		more                bool
	}{
		{"1a", 0, 1, "a", "", "", 1, false}, {"1a", 1, 1, "", "", "", 1, false},
		{"1a 3a", 0, 2, "", "", "", 2, false}, {"1a 3a", 0, 1, "a", "", "", 1, true}, {"1a 3a", 1, 1, "", "", "a", 2, false}, {"1a 3a", 2, 1, "", "", "", 2, false},
		{"1a 2a", 0, 2, "a", "", "", 2, false}, {"1a 2a", 1, 2, "", "a", "", 2, false}, {"1a 2a 3a", 0, 9, "", "", "", 3, false}, {"1a 2a 3a", 1, 9, "", "", "a", 3, false}, {"1a 2a 3a", 1, 1, "", "a", "", 2, true}, {"1a 2a 3a", 0, 2, "a", "", "", 2, true},
		{"1a 3a 1a", 0, 3, "a", "", "", 3, false}, {"1a 3a 1a", 1, 9, "", "a", "", 3, false}, {"1a 3a 1a", 2, 9, "a", "", "", 3, false}, {"1a 3a 1a", 1, 1, "", "", "a", 2, true}, {"1a 3a 1a", 0, 2, "", "", "", 2, true},
		{"1a 3a 1a 3a", 1, 3, "", "", "a", 4, false}, {"1a 3a 1a 3a", 1, 2, "", "a", "", 3, true}, {"1a 3a 1a 3a", 0, 4, "", "", "", 4, false}, {"1a 3a 1a 2a", 1, 3, "", "a", "", 4, false}, {"1a 3a 1a 2a", 2, 3, "a", "", "", 4, false},
		{"1b 1a 1c", 0, 9, "a b c", "", "", 3, false}, {"1b 1a 1c", 0, 2, "a b", "", "", 2, true}, {"1b 1a 1c", 0, 1, "b", "", "", 1, true}, {"1b 1a 1c", 2, 1, "c", "", "", 3, false}, {"1b 1ab 1a 10", 0, 9, "0 a ab b", "", "", 4, false},
		{"1b 1a 1c 2c 2a 2c", 3, 9, "", "a c", "", 6, false}, {"1b 1a 1c 2c 2a 2c", 0, 9, "a b c", "", "", 6, false}, {"1b 1a 1c 3c 3a 3b", 3, 9, "", "", "a b c", 6, false}, {"1b 1a 1c 3c 3a 3b", 0, 9, "", "", "", 6, false}, {"1b 1a 1c 3c 3a 3b", 1, 9, "", "", "b", 6, false},
		{"1a 1b 2a 3b 1c", 2, 3, "c", "a", "b", 5, false}, {"1a 1b 2a 3b 1c", 2, 2, "", "a", "b", 4, true}, {"1a 1b 2a 3b 1c", 0, math.MaxInt, "a c", "", "", 5, false},
	} {
		s := done(t, c.notes)
		news, ok := impl.StoreNews(s, c.since, c.most)
		want := impl.News{Made: strings.Fields(c.made), Changed: strings.Fields(c.changed), Gone: strings.Fields(c.gone), State: c.state, More: c.more}
		if !ok || !sameNews(news, want) {
			t.Errorf("%s since %d, %d: %v %+v", c.notes, c.since, c.most, ok, news)
		}
		checkNews(t, s)
	}
}

// What is not known: states that are forgotten, or to come, and a most below 1.
func TestNewsEdges(t *testing.T) {
	for _, c := range []struct{ state, count int }{{0, 0}, {1, 0}, {1, 1}, {2, 1}, {39, 39}, {40, 40}, {41, 40}, {500, 40}, {500, 3}, {1000000, 40}, {1000000, 0}, {999999, 40}} {
		s := storeOf("a", c.state, "")
		s.Notes = longNotes(c.count)
		if c.state == 0 {
			s.Events = nil
		}
		checkStoreOk(t, s, true)
		checkNews(t, s)
		least := c.state - c.count
		for _, since := range []int{math.MinInt, math.MinInt + 1, -1, least - 1, least, least + 1, c.state - 1, c.state, c.state + 1, math.MaxInt - 1, math.MaxInt} {
			for _, most := range []int{math.MinInt, -1, 0, 1, 2, c.state - since - 1, c.state - since, c.state - since + 1, 40, math.MaxInt} {
				want, known := slowNews(s, since, most)
				if known != (since >= least && since <= c.state && most >= 1) {
					t.Fatal("the test's own answer")
				}
				got, ok := impl.StoreNews(s, since, most)
				if ok != known || !sameNews(got, want) {
					t.Errorf("%s, since %d, most %d: %v %+v", storeAt(s), since, most, ok, got)
				}
				if ok && got.More != (most < c.state-since) {
					t.Errorf("%s, since %d, most %d: more %v", storeAt(s), since, most, got.More)
				}
			}
		}
	}
}

// NoteMax notes stay, the last ones, and what was ahead of them is not known any more.
func TestLastNotesStay(t *testing.T) {
	s := done(t, "")
	var all []impl.Note
	for state := range 130 {
		want := all[max(0, len(all)-40):]
		if s.State != state || !slices.Equal(s.Notes, want) || !impl.StoreOk(s) {
			t.Fatalf("%d: %s", state, storeAt(s))
		}
		for _, since := range []int{0, state - 41, state - 40, state - 39} {
			if _, ok := impl.StoreNews(s, since, 1); ok != (since >= 0 && state-since <= 40) {
				t.Fatalf("%s since %d: %v", storeAt(s), since, ok)
			}
		}
		id := someIds[state%7]
		if _, there := impl.StoreGet(s, id); there && state%3 == 0 {
			s = mustGone(t, s, id)
		} else {
			s = mustPut(t, s, plain(id))
		}
		all = append(all, s.Notes[len(s.Notes)-1])
	}
	checkNews(t, s)
}

// The codes, of which the first in the order of the chapter is told where several hold.
func TestStoreCodes(t *testing.T) {
	bad := plain("A")
	for _, state := range []int{20, 999999, 1000000} {
		for _, ids := range []string{"", "a", "b c d e f g h i j k l", twelve} {
			s := storeOf(ids, state, "")
			full := ids == twelve
			for _, at := range []int{math.MinInt, -2, -1, 0, 1, state - 1, state, state + 1, 1000000, 1000001, math.MaxInt} {
				other, last := at >= 0 && at != state, state == 1000000
				for _, e := range []impl.Event{bad, plain("a"), plain("m"), {Id: "a"}, {}} {
					want := impl.StoreFine
					switch {
					case !slowEventOk(s.Zones, e):
						want = impl.StoreBad
					case other:
						want = impl.StoreState
					case last || full && e.Id == "m":
						want = impl.StoreFull
					}
					checkPut(t, s, e, at, want)
				}
				for _, id := range []string{"a", "b", "m", "", "A", "abcdefghi"} {
					want := impl.StoreFine
					switch {
					case !slices.Contains(idsOf(s), id):
						want = impl.StoreNone
					case other:
						want = impl.StoreState
					case last:
						want = impl.StoreFull
					}
					checkGone(t, s, id, at, want)
				}
			}
		}
	}
}

// checkPut asks for the code, and for all of the store behind it.
func checkPut(t *testing.T, s impl.Store, e impl.Event, at int, want int) impl.Store {
	t.Helper()
	l := ledgerOf(s)
	if code := l.put(e, at); code != want {
		t.Errorf("%s: the test's own code is %d", storeAt(s), code)
	}
	next, code := impl.StorePut(s, e, at)
	if code != want || !sameStore(next, l.store()) || !impl.StoreOk(next) {
		t.Fatalf("%s, put %s at %d: %d %s", storeAt(s), eventAt(e), at, code, storeAt(next))
	}
	return next
}

func checkGone(t *testing.T, s impl.Store, id string, at int, want int) impl.Store {
	t.Helper()
	l := ledgerOf(s)
	if code := l.gone(id, at); code != want {
		t.Errorf("%s: the test's own code is %d", storeAt(s), code)
	}
	next, code := impl.StoreGone(s, id, at)
	if code != want || !sameStore(next, l.store()) || !impl.StoreOk(next) {
		t.Fatalf("%s, gone %q at %d: %d %s", storeAt(s), id, at, code, storeAt(next))
	}
	return next
}

func TestStoreExamples(t *testing.T) {
	zones := teaZones(t)
	s, _ := impl.StoreNew(zones)
	pay := impl.Event{Id: "pay", Title: "pay day", Zone: "utc", Start: mustTime(t, "2026-01-30T12:00"), Long: 60, Rule: mustRule(t, "FREQ=MONTHLY;BYDAY=MO,TU,WE,TH,FR;BYSETPOS=-1")}
	s = checkPut(t, s, tea(t), 0, impl.StoreFine)
	checkPut(t, s, pay, 0, impl.StoreState)
	checkPut(t, s, pay, 2, impl.StoreState)
	s = checkPut(t, s, pay, 1, impl.StoreFine)
	if !slices.Equal(idsOf(s), []string{"pay", "tea"}) || !slices.Equal(s.Notes, notesOf("1tea 1pay")) {
		t.Fatal(storeAt(s))
	}
	out, _ := impl.EventOut(zones, tea(t), tea(t).Start)
	s = checkPut(t, s, out, -1, impl.StoreFine)
	if e, ok := impl.StoreGet(s, "tea"); !ok || !sameEvent(e, out) {
		t.Errorf("%v %s", ok, eventAt(e))
	}
	if e, ok := impl.StoreGet(s, "pay"); !ok || !sameEvent(e, pay) {
		t.Errorf("%v %s", ok, eventAt(e))
	}
	checkGone(t, s, "pay", 2, impl.StoreState)
	s = checkGone(t, s, "pay", 3, impl.StoreFine)
	checkGone(t, s, "pay", 4, impl.StoreNone)
	s = checkPut(t, s, pay, math.MinInt, impl.StoreFine)
	if !slices.Equal(s.Notes, notesOf("1tea 1pay 2tea 3pay 1pay")) || s.State != 5 {
		t.Error(storeAt(s))
	}
	abroad := tea(t)
	abroad.Zone = "south"
	checkPut(t, s, abroad, -1, impl.StoreBad)
	checkPut(t, s, abroad, 77, impl.StoreBad)
}

// An event whose Id is there may be put when there are ItemMax; a new one when one of them is gone.
func TestStoreFull(t *testing.T) {
	s, _ := impl.StoreNew(named("utc"))
	for i, id := range someIds[:12] {
		s = checkPut(t, s, plain(id), i, impl.StoreFine)
	}
	longer := plain("b")
	longer.Long = 77
	for _, id := range someIds[12:] {
		checkPut(t, s, plain(id), -1, impl.StoreFull)
		checkPut(t, s, plain(id), 12, impl.StoreFull)
		checkPut(t, s, plain(id), 11, impl.StoreState)
	}
	s = checkPut(t, s, longer, 12, impl.StoreFine)
	for _, id := range someIds[12:] {
		checkPut(t, s, plain(id), -1, impl.StoreFull)
		less := checkGone(t, s, "zz", -1, impl.StoreFine)
		again := checkPut(t, less, plain(id), -1, impl.StoreFine)
		checkPut(t, again, plain("zz"), -1, impl.StoreFull)
		checkPut(t, less, plain("zz"), -1, impl.StoreFine)
	}
	checkNews(t, s)
}

// A state of 1000000 is the last.
func TestStoreLastState(t *testing.T) {
	for _, count := range []int{0, 1, 39, 40} {
		s := storeOf("a", 999999, "")
		s.Notes = longNotes(count)
		next := checkPut(t, s, plain("a"), 999999, impl.StoreFine)
		next = checkPut(t, next, plain("a"), 1000000, impl.StoreFull)
		other := checkGone(t, s, "a", -1, impl.StoreFine)
		other = checkPut(t, other, plain("a"), -1, impl.StoreFull)
		for _, last := range []impl.Store{next, other} {
			if last.State != 1000000 {
				t.Fatal(storeAt(last))
			}
			checkPut(t, last, plain("b"), -1, impl.StoreFull)
			checkPut(t, last, plain("b"), 999999, impl.StoreState)
			checkNews(t, last)
		}
		checkGone(t, next, "a", -1, impl.StoreFull)
		checkGone(t, next, "a", 1000000, impl.StoreFull)
		checkGone(t, next, "a", 999999, impl.StoreState)
		checkGone(t, other, "a", -1, impl.StoreNone)
	}
}

// A store put to, changed and taken from in any order is what the long way says, and so is all that is asked of it.
func TestStoresOfAllSorts(t *testing.T) {
	rng := rand.New(rand.NewSource(61))
	for i := range 32 {
		around := someBeginning(rng)
		zones := someClocks(rng, around)
		ids := someIds[:[]int{2, 5, 12, 16}[i%4]]
		events, _ := someItems(rng, zones, around, ids)
		s, ok := impl.StoreNew(zones)
		if !ok || !sameStore(s, impl.Store{Zones: zones}) {
			t.Fatal(storeAt(s))
		}
		l := ledgerOf(s)
		for range 110 {
			s = someStep(t, rng, s, l, events)
			checkSomeNews(t, rng, s)
		}
		checkGot(t, s, l)
		if !slowStoreOk(s) || s.State < 40 {
			t.Fatal(storeAt(s))
		}
	}
}

// checkSomeNews asks for what is new since a state around those that are known.
func checkSomeNews(t *testing.T, rng *rand.Rand, s impl.Store) {
	t.Helper()
	since, most := s.State-rng.Intn(len(s.Notes)+3)+1, rng.Intn(len(s.Notes)+3)
	want, known := slowNews(s, since, most)
	if got, ok := impl.StoreNews(s, since, most); ok != known || !sameNews(got, want) {
		t.Fatalf("%s, since %d, most %d: %v %+v", storeAt(s), since, most, ok, got)
	}
}

// someStep puts an event, or takes one away, most often so that it can be.
func someStep(t *testing.T, rng *rand.Rand, s impl.Store, l *ledger, events []impl.Event) impl.Store {
	t.Helper()
	at := []int{-1, -1, s.State, s.State, s.State - 1, s.State + 1, 0, -77}[rng.Intn(8)]
	e := events[rng.Intn(len(events))]
	if rng.Intn(8) == 0 {
		e.Long = 0
	}
	var next impl.Store
	var code, want int
	if rng.Intn(5) < 3 {
		want = l.put(e, at)
		next, code = impl.StorePut(s, e, at)
	} else {
		want = l.gone(e.Id, at)
		next, code = impl.StoreGone(s, e.Id, at)
	}
	if code != want || !sameStore(next, l.store()) || !impl.StoreOk(next) {
		t.Fatalf("%s at %d, %s: %d, not %d, %s", storeAt(s), at, eventAt(e), code, want, storeAt(next))
	}
	kept, there := l.events[e.Id]
	if got, ok := impl.StoreGet(next, e.Id); ok != there || !sameEvent(got, kept) {
		t.Fatalf("%s: %q %v", storeAt(next), e.Id, ok)
	}
	return next
}

// checkGot asks for each name that there could be.
func checkGot(t *testing.T, s impl.Store, l *ledger) {
	t.Helper()
	for _, id := range append([]string{"", "A", "none", "abcdefghi"}, someIds...) {
		want, there := l.events[id]
		if e, ok := impl.StoreGet(s, id); ok != there || !sameEvent(e, want) {
			t.Fatalf("%s: %q %v", storeAt(s), id, ok)
		}
	}
}

// In either order two new events lead to the same events and State.
func TestPutInAnyOrder(t *testing.T) {
	for _, notes := range []string{"", "1m", "1m 1n", "1m 1zz 1ba 3m"} {
		s := done(t, notes)
		for _, a := range someIds {
			for _, b := range someIds {
				if a == b || slices.Contains(idsOf(s), a) || slices.Contains(idsOf(s), b) {
					continue
				}
				one := mustPut(t, mustPut(t, s, plain(a)), plain(b))
				other := mustPut(t, mustPut(t, s, plain(b)), plain(a))
				if !slices.EqualFunc(one.Events, other.Events, sameEvent) || one.State != other.State || one.State != s.State+2 || !slices.IsSorted(idsOf(one)) {
					t.Errorf("%s and %s: %s, %s", a, b, storeAt(one), storeAt(other))
				}
			}
		}
	}
}

// A change is told as that alone, and what is made and taken away again is no news.
func TestNewsOfOneChange(t *testing.T) {
	rng := rand.New(rand.NewSource(59))
	s := done(t, "")
	for range 300 {
		e := plain(someIds[rng.Intn(len(someIds))])
		e.Long += rng.Intn(100)
		_, there := impl.StoreGet(s, e.Id)
		if !there && len(s.Events) == impl.ItemMax {
			s = mustGone(t, s, s.Events[rng.Intn(12)].Id)
		}
		next := mustPut(t, s, e)
		want := impl.News{Made: []string{e.Id}, State: next.State}
		if there {
			want = impl.News{Changed: []string{e.Id}, State: next.State}
		}
		if news, ok := impl.StoreNews(next, s.State, 1+rng.Intn(5)); !ok || !sameNews(news, want) {
			t.Fatalf("%s: %v %+v", storeAt(next), ok, news)
		}
		gone := mustGone(t, next, e.Id)
		want = impl.News{State: gone.State}
		if there {
			want.Gone = []string{e.Id}
		}
		if news, ok := impl.StoreNews(gone, s.State, 2+rng.Intn(5)); !ok || !sameNews(news, want) {
			t.Fatalf("%s: %v %+v", storeAt(gone), ok, news)
		}
		want = impl.News{Gone: []string{e.Id}, State: gone.State}
		if news, ok := impl.StoreNews(gone, next.State, 1); !ok || !sameNews(news, want) {
			t.Fatalf("%s: %v %+v", storeAt(gone), ok, news)
		}
		if rng.Intn(3) == 0 {
			s = gone
		} else {
			s = next
		}
	}
}

// follow does what is new to names, as somebody would who keeps them.
func follow(t *testing.T, names []string, news impl.News) []string {
	t.Helper()
	all := slices.Concat(news.Made, news.Changed, news.Gone)
	slices.Sort(all)
	if len(slices.Compact(slices.Clone(all))) != len(all) || !slices.IsSorted(news.Made) || !slices.IsSorted(news.Changed) || !slices.IsSorted(news.Gone) {
		t.Fatalf("%+v", news)
	}
	for _, id := range news.Made {
		if slices.Contains(names, id) {
			t.Fatalf("%v, made %s", names, id)
		}
		names = append(names, id)
	}
	for _, id := range slices.Concat(news.Changed, news.Gone) {
		if !slices.Contains(names, id) {
			t.Fatalf("%v, changed or gone %s", names, id)
		}
	}
	names = slices.DeleteFunc(names, func(id string) bool { return slices.Contains(news.Gone, id) })
	slices.Sort(names)
	return names
}

// Who goes on asking, from any state that is known, comes to the names that there are, step by step of the size that was asked.
func TestNewsOnAndOn(t *testing.T) {
	rng := rand.New(rand.NewSource(35))
	for i := range 60 {
		s := done(t, "")
		var states [][]string
		for len(states) < 2+i {
			states = append(states, idsOf(s))
			if id := someIds[rng.Intn(8)]; rng.Intn(2) == 0 && slices.Contains(idsOf(s), id) {
				s = mustGone(t, s, id)
			} else {
				s = mustPut(t, s, plain(id))
			}
		}
		states = append(states, idsOf(s))
		for since := s.State - len(s.Notes); since <= s.State; since++ {
			for most := 1; most <= 42; most++ {
				goOn(t, s, since, most, states)
			}
		}
	}
}

func goOn(t *testing.T, s impl.Store, since int, most int, states [][]string) {
	t.Helper()
	names := slices.Clone(states[since])
	for more := true; more; {
		news, ok := impl.StoreNews(s, since, most)
		if !ok || news.More && news.State != since+most || !news.More && news.State != s.State || news.State > s.State {
			t.Fatalf("%s since %d, %d: %v %+v", storeAt(s), since, most, ok, news)
		}
		names = follow(t, names, news)
		since, more = news.State, news.More
		if !slices.Equal(names, states[since]) {
			t.Fatalf("%s at %d: %v, not %v", storeAt(s), since, names, states[since])
		}
	}
	if since != s.State || !slices.Equal(names, idsOf(s)) {
		t.Fatalf("%s: %v at %d", storeAt(s), names, since)
	}
}

func hitOrder(a impl.Hit, b impl.Hit) int {
	if a.From != b.From {
		return a.From - b.From
	}
	if a.At != b.At {
		return a.At - b.At
	}
	return strings.Compare(a.Id, b.Id)
}

func TestStoreHitsExamples(t *testing.T) {
	zones := teaZones(t)
	s, _ := impl.StoreNew(zones)
	pay := impl.Event{Id: "pay", Title: "pay day", Zone: "utc", Start: mustTime(t, "2026-01-30T12:00"), Long: 60, Rule: mustRule(t, "FREQ=MONTHLY;BYDAY=MO,TU,WE,TH,FR;BYSETPOS=-1")}
	five := tea(t)
	five.Rule.Count = 5
	s = mustPut(t, mustPut(t, s, five), pay)
	want := `pay 2026-01-30T12:00 2026-01-30T12:00 2026-01-30T13:00 pay day
pay 2026-02-27T12:00 2026-02-27T12:00 2026-02-27T13:00 pay day
tea 2026-03-27T09:00 2026-03-27T08:00 2026-03-27T08:30 tea
tea 2026-03-28T09:00 2026-03-28T08:00 2026-03-28T08:30 tea
tea 2026-03-29T09:00 2026-03-29T07:00 2026-03-29T07:30 tea
tea 2026-03-30T09:00 2026-03-30T07:00 2026-03-30T07:30 tea
tea 2026-03-31T09:00 2026-03-31T07:00 2026-03-31T07:30 tea
pay 2026-03-31T12:00 2026-03-31T12:00 2026-03-31T13:00 pay day
pay 2026-04-30T12:00 2026-04-30T12:00 2026-04-30T13:00 pay day
`
	var got strings.Builder
	for _, h := range impl.StoreHits(s, mustTime(t, "2026-01-01T00:00"), mustTime(t, "2026-05-01T00:00")) {
		fmt.Fprintln(&got, h.Id, impl.TimeText(h.At), impl.TimeText(h.From), impl.TimeText(h.To), h.Title)
	}
	if got.String() != want {
		t.Errorf("%s", got.String())
	}
	start := pay.Start
	for _, c := range []struct{ from, to, count int }{
		{start, start + 1, 1}, {start + 59, start + 60, 1}, {start + 60, start + 61, 0}, {start - 1, start, 0}, {start, start, 0}, {start + 1, start + 1, 1}, {start + 10, start + 5, 1}, {start + 60, start + 5, 0}, {start + 10, start, 0},
		{-1, impl.TimeMax, 0}, {0, impl.TimeMax + 1, 0}, {impl.TimeMax, 0, 0}, {math.MinInt, math.MaxInt, 0}, {math.MaxInt, math.MinInt, 0}, {start, -1, 0}, {impl.TimeMax + 1, impl.TimeMax + 1, 0},
	} {
		if got := impl.StoreHits(s, c.from, c.to); len(got) != c.count {
			t.Errorf("%d to %d: %v", c.from, c.to, got)
		}
	}
}

// Hits of several events with the same From are by At, and with the same At by Id.
func TestStoreHitsInOrder(t *testing.T) {
	s, _ := impl.StoreNew([]impl.Zone{{Name: "back", Shift: -60}, {Name: "front", Shift: 60}, {Name: "utc"}})
	start := 1000000
	for i, id := range []string{"b", "ab", "a", "z", "0", "m", "ba"} {
		e := impl.Event{Id: id, Zone: []string{"utc", "front", "back"}[i%3], Long: 5 - i%2, Start: start, Rule: impl.Rule{Freq: impl.FreqDay, Every: 1, Count: 3}}
		e.Start += map[string]int{"utc": 0, "front": 60, "back": -60}[e.Zone]
		s = mustPut(t, s, e)
	}
	hits := impl.StoreHits(s, start, start+1)
	want := []string{"a", "m", "b", "ba", "z", "0", "ab"}
	var ids []string
	for _, h := range hits {
		ids = append(ids, h.Id)
	}
	if !slices.Equal(ids, want) {
		t.Errorf("%v: %v", ids, hits)
	}
	all := impl.StoreHits(s, 0, impl.TimeMax)
	if len(all) != 21 || !slices.IsSortedFunc(all, hitOrder) || !slices.Equal(all[:7], hits) {
		t.Errorf("%v", all)
	}
}

// The first HitMax of all are told, of whichever events they are.
func TestStoreHitsOfMany(t *testing.T) {
	start := 1000 * dayMinutes
	for _, c := range []struct{ events, count, want int }{{1, 199, 199}, {1, 200, 200}, {1, 201, 200}, {1, 0, 200}, {2, 100, 200}, {2, 101, 200}, {3, 66, 198}, {3, 67, 200}, {4, 50, 200}, {12, 16, 192}, {12, 17, 200}, {12, 500, 200}, {12, 0, 200}} {
		s, _ := impl.StoreNew(named("utc"))
		var all []impl.Hit
		for i := range c.events {
			e := impl.Event{Id: someIds[i], Title: "t", Zone: "utc", Start: start + 7*i*dayMinutes + 11*(i%3), Long: 1 + i, Rule: impl.Rule{Freq: impl.FreqDay, Every: 1 + i%2, Count: c.count}}
			s = mustPut(t, s, e)
			all = append(all, slowHits(s.Zones, e, slowEventTimes(e), 0, impl.TimeMax)...)
		}
		slices.SortFunc(all, hitOrder)
		got := impl.StoreHits(s, 0, impl.TimeMax)
		if len(got) != c.want || !slices.Equal(got, all[:c.want]) {
			t.Errorf("%d events of %d: %d hits", c.events, c.count, len(got))
		}
	}
}

// All hits of a store are those of its events, done the long way.
func TestStoreHitsOfAllSorts(t *testing.T) {
	rng := rand.New(rand.NewSource(36))
	several, many := 0, 0
	for range 150 {
		around := someBeginning(rng)
		zones := someClocks(rng, around)
		events, times := someItems(rng, zones, around, someIds[:1+rng.Intn(12)])
		s, _ := impl.StoreNew(zones)
		for _, e := range events {
			s = mustPut(t, s, e)
		}
		for range 12 {
			k := rng.Intn(len(events))
			from, to := someSpan(rng, zones, events[k], times[k])
			var want []impl.Hit
			for i, e := range events {
				// Of two events with one Id the later one is there.
				if i+1 < len(events) && events[i+1].Id == e.Id {
					continue
				}
				want = append(want, slowHits(zones, e, times[i], from, to)...)
			}
			slices.SortFunc(want, hitOrder)
			got := impl.StoreHits(s, from, to)
			if !slices.Equal(got, firstHits(want)) {
				t.Fatalf("%s from %d to %d: %d hits, not %d", storeAt(s), from, to, len(got), len(want))
			}
			if len(got) > 1 {
				several++
			}
			if len(want) > 200 {
				many++
			}
		}
	}
	if several < 300 || many < 20 {
		t.Error(several, many)
	}
}
