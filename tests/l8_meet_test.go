package tests

import (
	"fmt"
	"math"
	"math/rand"
	"slices"
	"strings"
	"testing"

	"loop.example/ephemeris/impl"
)

func TestMeetLimits(t *testing.T) {
	if impl.GuestMax != 5 || impl.SeqMax != 1000 {
		t.Error(impl.GuestMax, impl.SeqMax)
	}
	if impl.GuestAsked != 0 || impl.GuestYes != 1 || impl.GuestNo != 2 || impl.GuestMaybe != 3 {
		t.Error("what guests say")
	}
}

// checkMeetOk asks all of chapter 8 that takes a meeting whether one is ok.
func checkMeetOk(t *testing.T, zones []impl.Zone, m impl.Meet, want bool) {
	t.Helper()
	if slowMeetOk(zones, m) != want {
		t.Errorf("%s: the test's own answer is %v", meetAt(m), !want)
	}
	if impl.MeetOk(zones, m) != want {
		t.Errorf("%s: %v", meetAt(m), !want)
	}
	if want {
		return
	}
	e := m.Event
	e.Title = "new"
	changed, a := impl.MeetChange(zones, m, e)
	asked, b := impl.MeetAsk(zones, m, "new", true)
	off, c := impl.MeetOff(zones, m)
	if a || b || c || !isNoMeet(changed) || !isNoMeet(asked) || !isNoMeet(off) {
		t.Errorf("%s: %v %v %v", meetAt(m), a, b, c)
	}
	for _, g := range m.Guests[:min(len(m.Guests), 9)] {
		gone, a := impl.MeetAsk(zones, m, g.Name, false)
		said, b := impl.MeetSay(zones, m, g.Name, 1, m.Seq)
		if a || b || !isNoMeet(gone) || !isNoMeet(said) {
			t.Errorf("%s: %v %v", meetAt(m), a, b)
		}
	}
}

func TestMeetOkExamples(t *testing.T) {
	zones, _ := teaMeet(t)
	for _, c := range []struct {
		host   string
		guests string
		seq    int
		ok     bool
	}{
		{"host", "", 0, true}, {"h", "", 1000, true}, {"0", "", 1, true}, {"abcdefgh", "", 0, true}, {"", "", 0, false}, {"abcdefghi", "", 0, false}, {"Host", "", 0, false}, {"a b", "", 0, false},
		{"host", "", -1, false}, {"host", "", 1001, false}, {"host", "", math.MaxInt, false}, {"host", "", math.MinInt, false}, {"host", "a/0/0", -1, false},
		{"host", "a/0/0", 0, true}, {"host", "a/1/0", 0, true}, {"host", "a/2/0", 0, true}, {"host", "a/3/0", 0, true}, {"host", "a/4/0", 0, false}, {"host", "a/-1/0", 0, false},
		{"host", "a/0/1", 0, false}, {"host", "a/0/1", 1, true}, {"host", "a/0/-1", 1, false}, {"host", "a/0/2", 1, false}, {"host", "a/3/1000", 1000, true}, {"host", "a/3/1001", 1000, false}, {"host", "a/3/999", 1000, true}, {"host", "a/3/1001", 1001, false},
		{"host", "host/0/0", 0, false}, {"host", "a/0/0 host/0/0", 0, false}, {"host", "hos/0/0 hostt/0/0", 0, true}, {"h", "a/0/0 h/0/0 z/0/0", 0, false},
		{"host", "a/0/0 b/0/0", 0, true}, {"host", "b/0/0 a/0/0", 0, false}, {"host", "a/0/0 a/0/0", 0, false}, {"host", "a/0/0 a/1/1", 1, false}, {"host", "a/0/0 ab/0/0", 0, true}, {"host", "ab/0/0 a/0/0", 0, false}, {"host", "0/0/0 a/0/0", 0, true}, {"host", "a/0/0 0/0/0", 0, false}, {"host", "10/0/0 9/0/0", 0, true}, {"host", "9/0/0 10/0/0", 0, false},
		{"host", "a/0/0 c/0/0 b/0/0", 0, false}, {"host", "a/0/0 b/0/0 a/0/0", 0, false}, {"host", "A/0/0", 0, false}, {"host", "/0/0", 0, false}, {"host", "abcdefghi/0/0", 0, false}, {"host", "abcdefgh/0/0", 0, true}, {"host", "a/0/0 b-/0/0", 0, false},
		{"host", "a/0/0 b/1/1 c/2/2 d/3/3 e/0/4", 4, true}, {"host", "a/0/0 b/1/1 c/2/2 d/3/3 e/0/5", 4, false}, {"host", "a/0/0 b/1/1 c/2/2 d/3/3 e/4/4", 4, false}, {"host", "a/0/0 b/1/1 c/2/2 d/3/3 e/0/4 f/0/0", 4, false}, {"host", "a/0/0 b/0/0 c/0/0 d/0/0 d/0/0", 0, false},
	} {
		m := impl.Meet{Event: plain("e"), Host: c.host, Guests: guestsOf(c.guests), Seq: c.seq}
		for _, off := range []bool{false, true} {
			m.Off = off
			checkMeetOk(t, zones, m, c.ok)
		}
	}
}

// Zones and the event must be ok.
func TestMeetOkEvents(t *testing.T) {
	zones, m := teaMeet(t)
	checkMeetOk(t, zones, m, true)
	for _, bad := range [][]impl.Zone{nil, {}, zones[1:], {zones[1], zones[0]}, {zones[0], zones[0]}, {zones[0], {Name: "utc", Shift: 1441}}, append(named("a", "b", "c", "d", "e", "f"), zones[0]), make([]impl.Zone, 100000)} {
		checkMeetOk(t, bad, m, false)
	}
	checkMeetOk(t, zones[:1], m, true)
	checkMeetOk(t, zones, impl.Meet{}, false)
	checkMeetOk(t, zones, impl.Meet{Host: "host"}, false)
	for _, e := range wildEvents(t) {
		one := m
		one.Event = e
		checkMeetOk(t, zones, one, slowEventOk(zones, e))
	}
}

// All lists of up to two guests of a few names, at all that they may have said, and a bit more.
func TestMeetOkOfAllSmall(t *testing.T) {
	zones := named("utc")
	var guests []impl.Guest
	for _, name := range []string{"a", "b", "h", ""} {
		for said := -1; said <= 4; said++ {
			for seq := -1; seq <= 2; seq++ {
				guests = append(guests, impl.Guest{Name: name, Said: said, Seq: seq})
			}
		}
	}
	oks := 0
	check := func(list ...impl.Guest) {
		for _, seq := range []int{0, 1, 2} {
			m := impl.Meet{Event: plain("e"), Host: "h", Guests: list, Seq: seq}
			ok := slowMeetOk(zones, m)
			if impl.MeetOk(zones, m) != ok {
				t.Fatalf("%s: %v", meetAt(m), !ok)
			}
			if ok {
				oks++
			}
		}
	}
	for _, g := range guests {
		check(g)
		for _, other := range guests {
			check(g, other)
		}
	}
	if oks < 200 {
		t.Error(oks)
	}
}

func TestMeetOkOfMany(t *testing.T) {
	for _, count := range []int{0, 1, 4, 5, 6, 7, 1000, 1000000} {
		m := impl.Meet{Event: plain("e"), Host: "h"}
		for i := range count {
			m.Guests = append(m.Guests, impl.Guest{Name: fmt.Sprintf("g%07d", i)})
		}
		checkMeetOk(t, named("utc"), m, count <= 5)
	}
}

// newSlow is MeetNew: a party of none, of which all names are asked.
func newSlow(zones []impl.Zone, e impl.Event, host string, names []string) (impl.Meet, bool) {
	p := partyOf(zones, impl.Meet{Event: e, Host: host})
	for _, name := range names {
		if !p.ask(name, true) {
			return impl.Meet{}, false
		}
	}
	return p.meet(), slowNameOk(host) && slowEventOk(zones, e)
}

func checkMeetNew(t *testing.T, zones []impl.Zone, e impl.Event, host string, names []string) bool {
	t.Helper()
	want, is := newSlow(zones, e, host, names)
	if !is {
		want = impl.Meet{}
	}
	before := slices.Clone(names)
	got, ok := impl.MeetNew(zones, e, host, names)
	if ok != is || !sameMeet(got, want) || !slices.Equal(names, before) {
		t.Fatalf("%q %v: %s %v", host, names[:min(len(names), 9)], meetAt(got), ok)
	}
	if ok && (!impl.MeetOk(zones, got) || got.Seq != 0 || got.Off || impl.MeetCount(got, impl.GuestAsked) != len(names)) {
		t.Fatalf("%q %v: %s", host, names, meetAt(got))
	}
	return ok
}

func TestMeetNew(t *testing.T) {
	zones, m := teaMeet(t)
	names := []string{"a", "ab", "b", "h", "0", "X"}
	for _, host := range []string{"h", "z", "a", "", "H", "abcdefgh", "abcdefghi"} {
		oks := 0
		var list []string
		var more func()
		more = func() {
			if checkMeetNew(t, named("utc"), plain("e"), host, list) {
				oks++
			}
			if len(list) == 4 {
				return
			}
			for _, name := range names {
				list = append(list, name)
				more()
				list = list[:len(list)-1]
			}
		}
		more()
		want := map[string]int{"h": 65, "a": 65, "z": 206, "abcdefgh": 206}[host]
		if oks != want {
			t.Errorf("host %q: %d, not %d", host, oks, want)
		}
	}
	for count := range 9 {
		all := []string{"g", "c", "f", "a", "h", "b", "d", "e"}[:count]
		if checkMeetNew(t, zones, m.Event, "host", all) != (count <= 5) {
			t.Errorf("%d guests", count)
		}
	}
	for _, list := range [][]string{nil, {}, {"host"}, {"a", "host"}, {"a", "a"}, {""}, {"a", ""}, {"A"}, {"b", "a", "a"}, {"abcdefgh"}, {"abcdefghi"}, {"a\n"}, make([]string, 100000), slices.Repeat([]string{"a"}, 100000)} {
		checkMeetNew(t, zones, m.Event, "host", list)
	}
	for _, e := range wildEvents(t) {
		checkMeetNew(t, zones, e, "host", []string{"b", "a"})
	}
	for _, bad := range [][]impl.Zone{nil, named("utc"), {zones[1], zones[0]}, {zones[0], {Name: "utc", Shift: 1441}}} {
		if checkMeetNew(t, bad, m.Event, "host", []string{"a"}) {
			t.Errorf("%v", bad)
		}
	}
}

// checkTurn holds what was answered against a party, done likewise; what can't be leaves all as it is.
func checkTurn(t *testing.T, p *party, m impl.Meet, got impl.Meet, ok bool, want bool, call string) {
	t.Helper()
	if ok != want || !sameMeet(got, p.meet()) {
		t.Fatalf("%s, %s: %v %s, not %v %s", meetAt(m), call, ok, meetAt(got), want, meetAt(p.meet()))
	}
	if !impl.MeetOk(p.zones, got) || !ok && !sameMeet(got, m) {
		t.Fatalf("%s, %s: %s", meetAt(m), call, meetAt(got))
	}
}

func checkChange(t *testing.T, zones []impl.Zone, m impl.Meet, e impl.Event) (impl.Meet, bool) {
	t.Helper()
	p := partyOf(zones, m)
	want := p.change(e)
	got, ok := impl.MeetChange(zones, m, e)
	checkTurn(t, p, m, got, ok, want, "changed to "+eventAt(e))
	if ok {
		had, has := impl.MeetLetter(m), impl.MeetLetter(got)
		if got.Seq != m.Seq+1 || !sameEvent(got.Event, e) || !sameLetter(impl.LetterTake(had, has), has) || !sameLetter(impl.LetterTake(has, had), has) {
			t.Fatalf("%s: %s", meetAt(m), meetAt(got))
		}
	}
	return got, ok
}

func checkAsk(t *testing.T, zones []impl.Zone, m impl.Meet, name string, more bool) (impl.Meet, bool) {
	t.Helper()
	p := partyOf(zones, m)
	want := p.ask(name, more)
	got, ok := impl.MeetAsk(zones, m, name, more)
	checkTurn(t, p, m, got, ok, want, fmt.Sprintf("%q asked: %v", name, more))
	if back, is := impl.MeetAsk(zones, got, name, !more); ok && more && (!is || !sameMeet(back, m)) {
		t.Fatalf("%s, %q asked, and no more: %s", meetAt(m), name, meetAt(back))
	}
	return got, ok
}

func checkSay(t *testing.T, zones []impl.Zone, m impl.Meet, name string, said int, seq int) (impl.Meet, bool) {
	t.Helper()
	p := partyOf(zones, m)
	want := p.say(name, said, seq)
	got, ok := impl.MeetSay(zones, m, name, said, seq)
	checkTurn(t, p, m, got, ok, want, fmt.Sprintf("%q says %d to %d", name, said, seq))
	return got, ok
}

func checkOff(t *testing.T, zones []impl.Zone, m impl.Meet) (impl.Meet, bool) {
	t.Helper()
	p := partyOf(zones, m)
	want := p.call()
	got, ok := impl.MeetOff(zones, m)
	checkTurn(t, p, m, got, ok, want, "called off")
	if !got.Off && ok {
		t.Fatalf("%s: %s", meetAt(m), meetAt(got))
	}
	if !got.Off {
		return got, ok
	}
	e := got.Event
	e.Title = "new"
	checkSilent(t, zones, got, e)
	e.Start += 60
	checkSilent(t, zones, got, e)
	return got, ok
}

// checkSilent asks that nothing can be done to a meeting that is off.
func checkSilent(t *testing.T, zones []impl.Zone, m impl.Meet, e impl.Event) {
	t.Helper()
	after, a := impl.MeetChange(zones, m, e)
	again, b := impl.MeetOff(zones, m)
	asked, c := impl.MeetAsk(zones, m, "new", true)
	if a || b || c || !sameMeet(after, m) || !sameMeet(again, m) || !sameMeet(asked, m) {
		t.Fatalf("%s: %v %v %v", meetAt(m), a, b, c)
	}
	for _, g := range m.Guests {
		gone, a := impl.MeetAsk(zones, m, g.Name, false)
		said, b := impl.MeetSay(zones, m, g.Name, 1, m.Seq)
		if a || b || !sameMeet(gone, m) || !sameMeet(said, m) {
			t.Fatalf("%s: %v %v", meetAt(m), a, b)
		}
	}
}

// otherEvents are events that differ from one in a part; those that are not at another time come first.
func otherEvents(t *testing.T, e impl.Event) ([]impl.Event, []impl.Event) {
	with := func(change func(e *impl.Event)) impl.Event {
		one := copyEvent(e)
		change(&one)
		if !slowEventOk(teaZones(t), one) {
			t.Fatalf("%s is not ok", eventAt(one))
		}
		return one
	}
	same := []impl.Event{
		with(func(e *impl.Event) {}),
		with(func(e *impl.Event) { e.Title = "coffee" }),
		with(func(e *impl.Event) { e.Title = "" }),
		with(func(e *impl.Event) { e.Overs[0].Title = "other" }),
		with(func(e *impl.Event) { e.Overs[1].Title = "" }),
		with(func(e *impl.Event) { e.Title, e.Overs[0].Title, e.Overs[1].Title = "a", "b", "c" }),
	}
	at := e.Start + 10*dayMinutes
	other := []impl.Event{
		with(func(e *impl.Event) { e.Zone = "utc" }),
		with(func(e *impl.Event) { e.Start, e.Outs, e.Overs = e.Start+1, nil, nil }),
		with(func(e *impl.Event) { e.Start -= 7 * dayMinutes }),
		with(func(e *impl.Event) { e.Long++ }),
		with(func(e *impl.Event) { e.Long, e.Title = 1, "short" }),
		with(func(e *impl.Event) { e.Outs = nil }),
		with(func(e *impl.Event) { e.Outs = append(e.Outs, at) }),
		with(func(e *impl.Event) { e.Outs = []int{at} }),
		with(func(e *impl.Event) { e.Overs = nil }),
		with(func(e *impl.Event) { e.Overs = e.Overs[:1] }),
		with(func(e *impl.Event) { e.Overs = e.Overs[1:] }),
		with(func(e *impl.Event) { e.Overs[1].At = at }),
		with(func(e *impl.Event) { e.Overs[0].Start++ }),
		with(func(e *impl.Event) { e.Overs[1].Start-- }),
		with(func(e *impl.Event) { e.Overs[0].Long++ }),
		with(func(e *impl.Event) { e.Overs[1].Long, e.Overs[1].Title = 1, "x" }),
		with(func(e *impl.Event) {
			e.Overs = append(e.Overs, impl.Over{At: at, Start: at, Long: e.Long, Title: e.Title})
		}),
		with(func(e *impl.Event) { e.Rule, e.Outs, e.Overs = impl.Rule{}, nil, nil }),
	}
	return same, append(other, otherRules(with)...)
}

// otherRules change each part of a rule of days, alone.
func otherRules(with func(func(e *impl.Event)) impl.Event) []impl.Event {
	return []impl.Event{
		with(func(e *impl.Event) { e.Rule.Freq = impl.FreqWeek }),
		with(func(e *impl.Event) { e.Rule.Every, e.Outs, e.Overs = 2, nil, nil }),
		with(func(e *impl.Event) { e.Rule.Count = 500 }),
		with(func(e *impl.Event) { e.Rule.Count = 499 }),
		with(func(e *impl.Event) { e.Rule.Until = impl.DayMax }),
		with(func(e *impl.Event) { e.Rule.Until = impl.DayMax - 1 }),
		with(func(e *impl.Event) { e.Rule.Days = e.Rule.Days[:6] }),
		with(func(e *impl.Event) { e.Rule.Days = nil }),
		with(func(e *impl.Event) { e.Rule.Dates = []int{-31, -30, -29, 1, 2, 3, 4, 5}; e.Outs, e.Overs = nil, nil }),
		with(func(e *impl.Event) { e.Rule.Months = []int{1, 2, 3, 4, 5, 6, 7, 8} }),
		with(func(e *impl.Event) { e.Rule.Months = []int{1, 3, 4, 5, 6, 7, 8} }),
		with(func(e *impl.Event) { e.Rule.Places = []int{1} }),
		with(func(e *impl.Event) { e.Rule.Places = []int{-1} }),
		with(func(e *impl.Event) { e.Rule.Week = 3 }),
	}
}

// fullTea comes each day, by all days of the week, with an Out and two Overs.
func fullTea(t *testing.T) impl.Event {
	e := tea(t)
	for day := range 7 {
		e.Rule.Days = append(e.Rule.Days, impl.By{Day: day})
	}
	e.Outs = []int{e.Start + dayMinutes}
	e.Overs = oversAt([]int{e.Start + 3*dayMinutes, e.Start + 4*dayMinutes})
	return e
}

// A change of titles alone asks nobody again; any other one asks all.
func TestMeetChange(t *testing.T) {
	zones, m := teaMeet(t)
	m.Event = fullTea(t)
	same, other := otherEvents(t, m.Event)
	for _, seq := range []int{4, 5, 998, 999} {
		m.Seq = seq
		for i, e := range same {
			got, ok := checkChange(t, zones, m, e)
			if !ok || !slices.Equal(got.Guests, m.Guests) || got.Seq != seq+1 || got.Off {
				t.Errorf("change %d: %v %s", i, ok, meetAt(got))
			}
			if back, ok := checkChange(t, zones, got, m.Event); seq < 999 && (!ok || !slices.Equal(back.Guests, m.Guests)) {
				t.Errorf("change %d back: %v %s", i, ok, meetAt(back))
			}
		}
		for i, e := range other {
			got, ok := checkChange(t, zones, m, e)
			want := guestsOf(strings.ReplaceAll("ann/0/N bob/0/N cid/0/N dan/0/N", "N", fmt.Sprint(seq+1)))
			if !ok || !slices.Equal(got.Guests, want) || got.Seq != seq+1 || got.Off {
				t.Errorf("change %d: %v %s", i, ok, meetAt(got))
			}
			if back, ok := checkChange(t, zones, got, m.Event); seq < 999 && (!ok || back.Guests[0].Seq != seq+2) {
				t.Errorf("change %d back: %v %s", i, ok, meetAt(back))
			}
		}
	}
}

// What can't be changed: at the last state, to another Id, to what is not ok, and when it is off.
func TestMeetChangeEdges(t *testing.T) {
	zones, m := teaMeet(t)
	e := copyEvent(m.Event)
	e.Title = "coffee"
	for seq, want := range map[int]bool{4: true, 998: true, 999: true, 1000: false} {
		m.Seq = seq
		for _, off := range []bool{false, true} {
			m.Off = off
			if _, ok := checkChange(t, zones, m, e); ok != (want && !off) {
				t.Errorf("seq %d, off %v: %v", seq, off, ok)
			}
		}
	}
	m.Seq, m.Off = 4, false
	for _, id := range []string{"", "te", "teaa", "tea2", "TEA", "host", "abcdefghi"} {
		e.Id = id
		if _, ok := checkChange(t, zones, m, e); ok {
			t.Errorf("id %q", id)
		}
	}
	for _, e := range wildEvents(t) {
		checkChange(t, zones, m, e)
		e.Id = "tea"
		if _, ok := checkChange(t, zones, m, e); ok != slowEventOk(zones, e) {
			t.Errorf("%s: %v", eventAt(e), ok)
		}
	}
	e = copyEvent(m.Event)
	for _, zone := range []string{"", "south", "north ", "North"} {
		e.Zone = zone
		if _, ok := checkChange(t, zones, m, e); ok {
			t.Errorf("zone %q", zone)
		}
	}
}

func TestMeetAsk(t *testing.T) {
	zones, m := teaMeet(t)
	names := []string{"ann", "bob", "cid", "dan", "a", "an", "annn", "bz", "eve", "0", "zzzzzzzz", "host", "hos", "", "Eve", "toolongname", "e e"}
	for _, guests := range []string{"", "ann/1/3", "ann/1/3 dan/2/4", "ann/1/3 bob/2/4 cid/3/0 dan/0/2", "ann/1/3 bob/2/4 cid/3/0 dan/0/2 eve/1/1"} {
		m.Guests = guestsOf(guests)
		for _, name := range names {
			there := slices.ContainsFunc(m.Guests, func(g impl.Guest) bool { return g.Name == name })
			got, ok := checkAsk(t, zones, m, name, true)
			want := !there && len(m.Guests) < 5 && slowNameOk(name) && name != "host"
			at := slices.Index(got.Guests, impl.Guest{Name: name, Seq: 4})
			if ok != want || got.Seq != 4 || ok && (at < 0 || len(got.Guests) != len(m.Guests)+1) {
				t.Errorf("%s: %q comes: %v %s", guests, name, ok, meetAt(got))
			}
			got, ok = checkAsk(t, zones, m, name, false)
			if ok != there || got.Seq != 4 || ok && len(got.Guests) != len(m.Guests)-1 {
				t.Errorf("%s: %q goes: %v %s", guests, name, ok, meetAt(got))
			}
			m.Off = true
			if _, ok := checkAsk(t, zones, m, name, !there); ok {
				t.Errorf("%s: %q, off", guests, name)
			}
			m.Off = false
		}
	}
	for _, seq := range []int{0, 1, 999, 1000} {
		m.Guests, m.Seq = nil, seq
		if got, ok := checkAsk(t, zones, m, "eve", true); !ok || got.Guests[0].Seq != seq || got.Guests[0].Said != impl.GuestAsked {
			t.Errorf("seq %d: %v %s", seq, ok, meetAt(got))
		}
	}
}

// Whoever goes and comes again is asked again; whoever came, and goes, was never there.
func TestMeetAskAgain(t *testing.T) {
	zones, m := teaMeet(t)
	for _, g := range m.Guests {
		gone, a := checkAsk(t, zones, m, g.Name, false)
		back, b := checkAsk(t, zones, gone, g.Name, true)
		want := copyMeet(m)
		for i := range want.Guests {
			if want.Guests[i].Name == g.Name {
				want.Guests[i] = impl.Guest{Name: g.Name, Seq: 4}
			}
		}
		if !a || !b || !sameMeet(back, want) {
			t.Errorf("%s: %s", g.Name, meetAt(back))
		}
	}
}

// All that a guest may say to each state, and a bit more.
func TestMeetSay(t *testing.T) {
	zones := named("utc")
	oks := 0
	for seq := range 4 {
		for asked := range seq + 1 {
			for was := range 4 {
				m := impl.Meet{Event: plain("e"), Host: "h", Guests: []impl.Guest{{Name: "a", Said: 3 - was, Seq: seq}, {Name: "b", Said: was, Seq: asked}, {Name: "c", Said: 1}}, Seq: seq}
				for said := -1; said <= 5; said++ {
					for to := -1; to <= 5; to++ {
						for _, name := range []string{"b", "h", "", "bb", "B"} {
							got, ok := checkSay(t, zones, m, name, said, to)
							if ok != (name == "b" && said >= 1 && said <= 3 && to >= asked && to <= seq) {
								t.Fatalf("%s: %q says %d to %d: %v", meetAt(m), name, said, to, ok)
							}
							if ok && (got.Guests[0] != m.Guests[0] || got.Guests[1] != (impl.Guest{Name: "b", Said: said, Seq: to}) || got.Guests[2] != m.Guests[2]) {
								t.Fatalf("%s: %s", meetAt(m), meetAt(got))
							}
							if ok {
								oks++
							}
						}
						m.Off = true
						if _, ok := checkSay(t, zones, m, "b", said, to); ok {
							t.Fatalf("%s: said when off", meetAt(m))
						}
						m.Off = false
					}
				}
			}
		}
	}
	if oks != 240 {
		t.Error(oks)
	}
}

// Each guest of many says something to the first and the last state that they may, and to those at the sides.
func TestMeetSayEdges(t *testing.T) {
	zones, m := teaMeet(t)
	m.Guests, m.Seq = guestsOf("ann/1/0 bob/2/500 cid/3/999 dan/0/1000 eve/1/998"), 1000
	for _, g := range m.Guests {
		for _, seq := range []int{math.MinInt, -1, 0, g.Seq - 1, g.Seq, g.Seq + 1, 999, 1000, 1001, math.MaxInt} {
			for _, said := range []int{math.MinInt, -1, 0, 1, 2, 3, 4, math.MaxInt} {
				if _, ok := checkSay(t, zones, m, g.Name, said, seq); ok != (seq >= g.Seq && seq <= 1000 && said >= 1 && said <= 3) {
					t.Errorf("%s says %d to %d: %v", g.Name, said, seq, ok)
				}
			}
		}
	}
	asked, _ := impl.MeetNew(zones, m.Event, "host", []string{"ann", "bob"})
	e := copyEvent(m.Event)
	e.Long++
	later, _ := impl.MeetChange(zones, asked, e)
	if _, ok := checkSay(t, zones, later, "ann", impl.GuestYes, 0); ok {
		t.Error("said to a state that is over")
	}
	if got, ok := checkSay(t, zones, later, "ann", impl.GuestYes, 1); !ok || !slices.Equal(got.Guests, guestsOf("ann/1/1 bob/0/1")) {
		t.Error(meetAt(got))
	}
	e.Title = "titled"
	titled, _ := impl.MeetChange(zones, asked, e)
	titled, _ = impl.MeetChange(zones, titled, e)
	if _, ok := checkSay(t, zones, titled, "ann", impl.GuestYes, 0); ok {
		t.Error("said to a state that is over")
	}
	for seq := 1; seq <= 2; seq++ {
		if _, ok := checkSay(t, zones, titled, "ann", impl.GuestNo, seq); !ok {
			t.Errorf("not said to %d", seq)
		}
	}
	said, _ := checkSay(t, zones, titled, "ann", impl.GuestNo, 2)
	if _, ok := checkSay(t, zones, said, "ann", impl.GuestYes, 1); ok {
		t.Error("said to a state ahead of what was said last")
	}
}

func TestMeetOff(t *testing.T) {
	zones, m := teaMeet(t)
	for _, seq := range []int{4, 5, 998, 999, 1000} {
		m.Seq, m.Off = seq, false
		got, ok := checkOff(t, zones, m)
		want := copyMeet(m)
		if seq < 1000 {
			want.Off, want.Seq = true, seq+1
		}
		if ok != (seq < 1000) || !sameMeet(got, want) {
			t.Errorf("seq %d: %v %s", seq, ok, meetAt(got))
		}
		m.Off = true
		if got, ok := checkOff(t, zones, m); ok || !sameMeet(got, m) {
			t.Errorf("seq %d, off: %v %s", seq, ok, meetAt(got))
		}
	}
}

func TestMeetCount(t *testing.T) {
	_, m := teaMeet(t)
	m.Guests = guestsOf("a/0/0 b/1/0 c/1/0 d/3/0 e/0/0")
	for said, want := range map[int]int{-1: 0, 0: 2, 1: 2, 2: 0, 3: 1, 4: 0, math.MinInt: 0, math.MaxInt: 0} {
		if got := impl.MeetCount(m, said); got != want {
			t.Errorf("%d: %d", said, got)
		}
	}
	rng := rand.New(rand.NewSource(72))
	for range 500 {
		m := someMeet(rng, plain("e"))
		sum := 0
		for said := -1; said <= 4; said++ {
			got, want := impl.MeetCount(m, said), 0
			for _, g := range m.Guests {
				if g.Said == said {
					want++
				}
			}
			if sum += got; got != want {
				t.Fatalf("%s: %d said %d", meetAt(m), got, said)
			}
		}
		if sum != len(m.Guests) {
			t.Fatalf("%s: %d said something", meetAt(m), sum)
		}
	}
	if got := impl.MeetCount(impl.Meet{}, 0); got != 0 {
		t.Error(got)
	}
	if got := impl.MeetCount(impl.Meet{Guests: slices.Repeat(guestsOf("A/7/-1 a/0/0"), 50000)}, 7); got != 50000 {
		t.Error(got)
	}
}

func TestMeetLetter(t *testing.T) {
	zones, m := teaMeet(t)
	for _, e := range append(wildEvents(t), m.Event) {
		one := impl.Meet{Event: e, Host: "host", Guests: m.Guests, Seq: e.Long, Off: e.Start%2 == 0}
		if got := impl.MeetLetter(one); !sameLetter(got, letterOf(one)) {
			t.Fatalf("%s: %+v", meetAt(one), got)
		}
	}
	off, _ := impl.MeetOff(zones, m)
	had, has := impl.MeetLetter(m), impl.MeetLetter(off)
	if !has.Off || had.Off || has.Seq != 5 || !sameLetter(impl.LetterTake(had, has), has) || !sameLetter(impl.LetterTake(has, had), has) {
		t.Errorf("%+v", has)
	}
	if got := impl.MeetLetter(impl.Meet{}); !sameLetter(got, impl.Letter{}) {
		t.Errorf("%+v", got)
	}
}

// someLetters are letters of a few hosts and events, of several states, some of which are the same but for their titles.
func someLetters() []impl.Letter {
	var list []impl.Letter
	for _, host := range []string{"", "h", "hh", "H", "\xff"} {
		for _, id := range []string{"", "a", "b"} {
			for _, seq := range []int{math.MinInt, -1, 0, 1, 2, 1000, 1001, math.MaxInt} {
				list = append(list, impl.Letter{Event: plain(id), Host: host, Seq: seq, Off: seq%2 == 0})
				other := plain(id)
				other.Title, other.Start = host+"x", seq
				list = append(list, impl.Letter{Event: other, Host: host, Seq: seq})
			}
		}
	}
	return list
}

// Two letters in either order, of all sorts.
func TestLetterTake(t *testing.T) {
	taken := 0
	for _, have := range someLetters() {
		for _, l := range someLetters() {
			got := impl.LetterTake(have, l)
			if !sameLetter(got, slowTake(have, l)) {
				t.Fatalf("%+v, then %+v: %+v", have, l, got)
			}
			if sameLetter(got, l) && !sameLetter(have, l) {
				taken++
			}
			if have.Host == "" {
				continue
			}
			if !sameLetter(impl.LetterTake(got, have), got) || !sameLetter(impl.LetterTake(got, l), got) {
				t.Fatalf("%+v, then %+v, then again: %+v", have, l, got)
			}
			if have.Host != l.Host || have.Event.Id != l.Event.Id || have.Seq == l.Seq {
				if !sameLetter(got, have) {
					t.Fatalf("%+v, then %+v: %+v", have, l, got)
				}
				continue
			}
			if other := impl.LetterTake(l, have); !sameLetter(got, other) || got.Seq != max(have.Seq, l.Seq) {
				t.Fatalf("%+v, then %+v: %+v, in the other order %+v", have, l, got, other)
			}
		}
	}
	if taken < 1000 {
		t.Error(taken)
	}
}

// Letters of a meeting in any order: a guest has the newest at the end.
func TestLettersInAnyOrder(t *testing.T) {
	zones, m := teaMeet(t)
	letters := []impl.Letter{impl.MeetLetter(m)}
	for i := range 5 {
		e := copyEvent(m.Event)
		e.Title, e.Long = fmt.Sprint("tea ", i), 30+i/2
		m, _ = impl.MeetChange(zones, m, e)
		letters = append(letters, impl.MeetLetter(m))
	}
	m, _ = impl.MeetOff(zones, m)
	letters = append(letters, impl.MeetLetter(m))
	foreign := letters[3]
	foreign.Host, foreign.Seq = "other", 999
	other := letters[2]
	other.Event.Id, other.Seq = "other", 999
	rng := rand.New(rand.NewSource(73))
	for range 500 {
		order := rng.Perm(len(letters))
		have, newest := impl.Letter{}, -1
		for _, i := range order[:1+rng.Intn(len(order))] {
			have, newest = impl.LetterTake(have, letters[i]), max(newest, i)
			have = impl.LetterTake(impl.LetterTake(have, foreign), other)
			if !sameLetter(have, letters[newest]) {
				t.Fatalf("%v: %+v, not %+v", order, have, letters[newest])
			}
		}
	}
	if last := letters[6]; !last.Off || last.Seq != 10 {
		t.Errorf("%+v", last)
	}
}

// Meetings are changed, asked to, said to and called off in any order.
func TestMeetWalks(t *testing.T) {
	names := []string{"a", "ab", "abcdefgh", "b", "0", "z", "h1", "tea", "", "A"}
	done := map[string]int{}
	note := func(call string, ok bool) { done[fmt.Sprint(call, " ", ok)]++ }
	someEvents(t, 70, 60, func(rng *rand.Rand, zones []impl.Zone, e impl.Event, times []int) {
		events := []impl.Event{e, signedIn(rng, e), signedIn(rng, e), plain(e.Id)}
		events[3].Zone = e.Zone
		m := someMeet(rng, e)
		if rng.Intn(2) == 0 {
			m.Seq, m.Off, m.Guests = 0, false, nil
		}
		for range 40 {
			var ok bool
			name := names[rng.Intn(len(names))]
			if len(m.Guests) > 0 && rng.Intn(2) == 0 {
				name = m.Guests[rng.Intn(len(m.Guests))].Name
			}
			switch rng.Intn(12) {
			case 0, 1:
				m, ok = checkChange(t, zones, m, events[rng.Intn(len(events))])
				note("change", ok)
			case 2, 3, 4, 5:
				m, ok = checkAsk(t, zones, m, name, rng.Intn(3) > 0)
				note("ask", ok)
			case 6:
				if rng.Intn(4) == 0 {
					m, ok = checkOff(t, zones, m)
					note("off", ok)
				}
			default:
				m, ok = checkSay(t, zones, m, name, rng.Intn(5), m.Seq+1-rng.Intn(5))
				note("say", ok)
			}
		}
	})
	for _, call := range []string{"change", "ask", "off", "say"} {
		if done[call+" true"] < 10 || done[call+" false"] < 10 {
			t.Error(done)
		}
	}
}

// signedIn is an event other titles of which are told, in its own zone.
func signedIn(rng *rand.Rand, e impl.Event) impl.Event {
	one := signed(rng, e)
	one.Zone = e.Zone
	return one
}
