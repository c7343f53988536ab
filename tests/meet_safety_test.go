package tests

import (
	"math"
	"slices"
	"strings"
	"testing"

	"loop.example/ephemeris/impl"
)

// wildMeets are meetings of all sorts, most of them not ok.
func wildMeets(t *testing.T) []impl.Meet {
	_, whole := teaMeet(t)
	list := []impl.Meet{{}, {Host: "h"}, whole}
	for _, n := range append([]int{4, 5, 999, 1000, 1001}, wildInts...) {
		for i := range 6 {
			m := copyMeet(whole)
			switch i {
			case 0:
				m.Seq = n
			case 1:
				m.Guests[1].Said = n
			case 2:
				m.Guests[1].Seq = n
			case 3:
				m.Seq, m.Guests[0].Seq = n, n
			case 4:
				m.Event.Start, m.Event.Long = n, n
			case 5:
				m.Seq, m.Guests, m.Off = n, nil, true
			}
			list = append(list, m)
		}
	}
	for _, text := range []string{"", "\x00", "\xff", "é", "A", "ann", "zzz", strings.Repeat("a", 100000)} {
		for i := range 3 {
			m := copyMeet(whole)
			switch i {
			case 0:
				m.Host = text
			case 1:
				m.Guests[3].Name = text
			case 2:
				m.Event.Id, m.Event.Zone = text, text
			}
			list = append(list, m)
		}
	}
	for _, size := range []int{1, 5, 6, 1000, 100000} {
		guests, events := copyMeet(whole), copyMeet(whole)
		guests.Guests = make([]impl.Guest, size)
		events.Event.Outs, events.Event.Overs = make([]int, size), make([]impl.Over, size)
		list = append(list, guests, events)
	}
	return list
}

// checkMeetCalls calls all of chapter 8 that takes a meeting; a panic ends the test.
func checkMeetCalls(t *testing.T, zones []impl.Zone, m impl.Meet, ok bool, name string, a int, b int) {
	t.Helper()
	e := tea(t)
	e.Title, e.Long = "new", 31
	changed, c := impl.MeetChange(zones, m, e)
	come, d := impl.MeetAsk(zones, m, name, true)
	gone, f := impl.MeetAsk(zones, m, name, false)
	said, g := impl.MeetSay(zones, m, name, a, b)
	off, h := impl.MeetOff(zones, m)
	done := []bool{c, d, f, g, h}
	want := impl.Meet{}
	if ok {
		want = m
	}
	for i, next := range []impl.Meet{changed, come, gone, said, off} {
		if !done[i] && !sameMeet(next, want) || done[i] && (!ok || !impl.MeetOk(zones, next)) {
			t.Fatalf("call %d of %s, with %q, %d, %d: %v %s", i, meetAt(m), name, a, b, done[i], meetAt(next))
		}
	}
	if count := impl.MeetCount(m, a); count < 0 || count > len(m.Guests) {
		t.Fatalf("%s: %d", meetAt(m), count)
	}
	l := impl.MeetLetter(m)
	other := impl.Letter{Event: e, Host: name, Seq: a, Off: true}
	if !sameLetter(l, letterOf(m)) || !sameLetter(impl.LetterTake(l, other), slowTake(l, other)) || !sameLetter(impl.LetterTake(other, l), slowTake(other, l)) {
		t.Fatalf("%s: %+v", meetAt(m), l)
	}
}

func TestMeetsNeverPanic(t *testing.T) {
	zones, _ := teaMeet(t)
	numbers := []int{math.MinInt, math.MinInt + 1, -1, 0, 1, 2, 3, 4, 5, 999, 1000, 1001, math.MaxInt - 1, math.MaxInt}
	oks := 0
	for _, m := range wildMeets(t) {
		ok := slowMeetOk(zones, m)
		checkMeetOk(t, zones, m, ok)
		if ok {
			oks++
		}
		for i, a := range numbers {
			for k, b := range numbers {
				if len(m.Guests)+len(m.Event.Outs) > 50 && i+k > 0 {
					continue
				}
				checkMeetCalls(t, zones, m, ok, []string{"ann", "bob", "eve", "host", ""}[(i+k)%5], a, b)
			}
		}
		checkMeetCalls(t, zones, m, ok, strings.Repeat("a", 100000), 1, 1)
		checkMeetCalls(t, nil, m, false, "ann", 1, 1)
		checkMeetCalls(t, make([]impl.Zone, 1000), m, false, "ann", 1, 1)
	}
	if oks < 20 {
		t.Error(oks)
	}
}

func TestMeetsWithWildZones(t *testing.T) {
	for _, z := range wildZones() {
		e := tea(t)
		e.Zone = z.Name
		m, ok := impl.MeetNew([]impl.Zone{z}, e, "host", []string{"ann"})
		if ok != slowZoneOk(z) || !ok && !isNoMeet(m) {
			t.Fatalf("%v: %v", z, ok)
		}
		checkMeetOk(t, []impl.Zone{z}, impl.Meet{Event: e, Host: "host"}, slowZoneOk(z))
		checkMeetCalls(t, []impl.Zone{z}, m, ok, "ann", 1, 0)
	}
	zones := teaZones(t)
	for _, r := range wildRules() {
		e := tea(t)
		e.Rule = r
		m, ok := impl.MeetNew(zones, e, "host", []string{"ann"})
		if ok != (slowRuleOk(r) || hasNoRule(e)) {
			t.Fatalf("%+v: %v", r, ok)
		}
		checkMeetCalls(t, zones, m, ok, "ann", 1, 0)
	}
}

// roomyMeet is a meeting that is ok, all of whose lists have something behind their ends.
func roomyMeet(t *testing.T) ([]impl.Zone, impl.Meet) {
	t.Helper()
	zones, e, _ := roomyEvent(t)
	guests := guestsOf("ann/1/3 bob/2/4 dan/3/0 x/9/9 ann/7/7 a/0/0")
	m := impl.Meet{Event: e, Host: "host", Guests: guests[:3], Seq: 4}
	if !impl.MeetOk(zones, m) {
		t.Fatal("what is behind the end counts")
	}
	return zones, m
}

// Nothing is written into an argument, or behind its end, and no answer shares memory, whatever the call comes to.
func TestMeetAnswersAreNew(t *testing.T) {
	zones, m := roomyMeet(t)
	titled, moved, bad := copyEvent(m.Event), copyEvent(m.Event), copyEvent(m.Event)
	titled.Title, moved.Long, bad.Id = "titled", m.Event.Long+1, "other"
	titled.Outs, moved.Overs = append(titled.Outs, 7, 8)[:3], append(moved.Overs, impl.Over{}, impl.Over{At: 7})[:3]
	off := m
	off.Off = true
	calls := []func() (impl.Meet, bool){
		func() (impl.Meet, bool) { return impl.MeetChange(zones, m, titled) },
		func() (impl.Meet, bool) { return impl.MeetChange(zones, m, moved) },
		func() (impl.Meet, bool) { return impl.MeetChange(zones, m, m.Event) },
		func() (impl.Meet, bool) { return impl.MeetChange(zones, m, bad) },
		func() (impl.Meet, bool) { return impl.MeetChange(zones, off, titled) },
		func() (impl.Meet, bool) { return impl.MeetAsk(zones, m, "a", true) },
		func() (impl.Meet, bool) { return impl.MeetAsk(zones, m, "cid", true) },
		func() (impl.Meet, bool) { return impl.MeetAsk(zones, m, "zoe", true) },
		func() (impl.Meet, bool) { return impl.MeetAsk(zones, m, "host", true) },
		func() (impl.Meet, bool) { return impl.MeetAsk(zones, m, "ann", true) },
		func() (impl.Meet, bool) { return impl.MeetAsk(zones, m, "ann", false) },
		func() (impl.Meet, bool) { return impl.MeetAsk(zones, m, "dan", false) },
		func() (impl.Meet, bool) { return impl.MeetAsk(zones, m, "x", false) },
		func() (impl.Meet, bool) { return impl.MeetSay(zones, m, "ann", 2, 4) },
		func() (impl.Meet, bool) { return impl.MeetSay(zones, m, "dan", 1, 2) },
		func() (impl.Meet, bool) { return impl.MeetSay(zones, m, "bob", 1, 3) },
		func() (impl.Meet, bool) { return impl.MeetOff(zones, m) },
		func() (impl.Meet, bool) { return impl.MeetOff(zones, off) },
	}
	wants := []bool{true, true, true, false, false, true, true, true, false, false, true, true, false, true, true, false, true, false}
	before := wholeText(m) + wholeText(zones) + wholeText(titled) + wholeText(moved)
	for i, call := range calls {
		one, ok := call()
		other, _ := call()
		if ok != wants[i] || !sameMeet(one, other) || !impl.MeetOk(zones, one) {
			t.Fatalf("call %d: %v %s", i, ok, meetAt(one))
		}
		checkApart(t, one, m, zones, titled, moved, other)
		want := copyMeet(other)
		scribbleGuests(one.Guests)
		scribbleAll(t, one.Event, func() bool { return sameMeet(other, want) })
		if again, _ := call(); !sameMeet(again, want) {
			t.Errorf("call %d: kept", i)
		}
		if after := wholeText(m) + wholeText(zones) + wholeText(titled) + wholeText(moved); after != before {
			t.Fatalf("call %d changed:\n%s\n%s", i, before, after)
		}
	}
}

func scribbleGuests(guests []impl.Guest) {
	guests = guests[:cap(guests)]
	for i := range guests {
		guests[i] = impl.Guest{Name: "scribble", Said: -99, Seq: -99}
	}
}

func TestMeetNewIsNew(t *testing.T) {
	zones, m := roomyMeet(t)
	whole := []string{"zoe", "bob", "ann", "behind", "A"}
	names, before := whole[:3], wholeText(m)
	one, ok := impl.MeetNew(zones, m.Event, "host", names)
	other, _ := impl.MeetNew(zones, m.Event, "host", names)
	if !ok || !slices.Equal(one.Guests, guestsOf("ann/0/0 bob/0/0 zoe/0/0")) || !sameEvent(one.Event, m.Event) {
		t.Fatal(meetAt(one))
	}
	checkApart(t, one, m, zones, other)
	if !slices.Equal(whole, []string{"zoe", "bob", "ann", "behind", "A"}) || wholeText(m) != before {
		t.Error("changed")
	}
}

func TestLettersAreNew(t *testing.T) {
	_, m := roomyMeet(t)
	before := wholeText(m)
	one, other := impl.MeetLetter(m), impl.MeetLetter(m)
	if !sameLetter(one, letterOf(m)) {
		t.Fatalf("%+v", one)
	}
	checkApart(t, one, m, other)
	had := impl.Letter{Event: m.Event, Host: "host", Seq: 4}
	newer, none := had, impl.Letter{}
	newer.Seq, newer.Event = 5, copyEvent(m.Event)
	beforeNewer := wholeText(newer)
	for i, c := range []struct{ have, l, want impl.Letter }{{had, newer, newer}, {newer, had, newer}, {had, had, had}, {none, had, had}, {had, none, had}, {none, none, none}} {
		got, again := impl.LetterTake(c.have, c.l), impl.LetterTake(c.have, c.l)
		if !sameLetter(got, c.want) {
			t.Errorf("%d: %+v", i, got)
		}
		checkApart(t, got, c.have, c.l, again)
	}
	if wholeText(m) != before || wholeText(newer) != beforeNewer {
		t.Error("changed")
	}
}

// The empty lists and none at all are the same.
func TestMeetEmptyIsNil(t *testing.T) {
	zones, none := teaMeet(t)
	none.Event = tea(t)
	empty := copyMeet(none)
	empty.Event.Outs, empty.Event.Overs = []int{}, []impl.Over{}
	empty.Event.Rule.Days, empty.Event.Rule.Dates, empty.Event.Rule.Months, empty.Event.Rule.Places = []impl.By{}, []int{}, []int{}, []int{}
	for _, change := range [][2]impl.Meet{{none, empty}, {empty, none}} {
		if got, ok := impl.MeetChange(zones, change[0], change[1].Event); !ok || !slices.Equal(got.Guests, none.Guests) {
			t.Errorf("asked again: %s", meetAt(got))
		}
	}
	none.Guests, empty.Guests = nil, []impl.Guest{}
	a, ok := impl.MeetAsk(zones, none, "ann", true)
	b, is := impl.MeetAsk(zones, empty, "ann", true)
	c, fine := impl.MeetNew(zones, tea(t), "host", []string{})
	if !ok || !is || !fine || !sameMeet(a, b) || !impl.MeetOk(zones, empty) || len(c.Guests) != 0 {
		t.Error(meetAt(a), meetAt(b), meetAt(c))
	}
}
