package tests

import (
	"fmt"
	"math"
	"math/rand"
	"slices"
	"strings"
	"testing"

	"loop.example/ephemeris/impl"
)

func checkTextIn(t *testing.T, text string, part string) {
	t.Helper()
	if got, want := impl.TextIn(text, part), slowTextIn(text, part); got != want {
		t.Fatalf("%q in %q: %v", part, text, got)
	}
}

func TestTextInExamples(t *testing.T) {
	for _, c := range []struct {
		text, part string
		want       bool
	}{
		{"Abc", "bC", true}, {"ab", "abc", false}, {"abc", "", true}, {"", "", true}, {"", "a", false}, {"abc", "abc", true}, {"ABC", "abc", true}, {"abc", "ABC", true}, {"aBc", "AbC", true}, {"abc", "ac", false}, {"abc", "abcd", false}, {"abc", "c", true}, {"abc", "a", true},
		{"aab", "ab", true}, {"ababac", "abac", true}, {"Tea time", "tea", true}, {"more TEA", "tea", true}, {"walk", "tea", false}, {"tea time", "a t", true}, {"teatime", "a t", false},
		{"@", "`", false}, {"[", "{", false}, {"`", "@", false}, {"{", "[", false}, {"Z", "z", true}, {"A", "a", true}, {"\\", "|", false}, {"^", "~", false}, {"_", "\x7f", false},
		{"É", "é", false}, {"Ä", "ä", false}, {"\xc3", "\xe3", false}, {"\u212a", "k", false}, {"\u017f", "s", false}, {"\xff", "\xff", true}, {"\xc1", "\xe1", false}, {"a\x00b", "\x00B", true},
	} {
		if got := impl.TextIn(c.text, c.part); got != c.want || slowTextIn(c.text, c.part) != c.want {
			t.Errorf("%q in %q: %v", c.part, c.text, got)
		}
	}
}

// Each byte in each other one, alone and between others.
func TestTextInBytes(t *testing.T) {
	for a := range 256 {
		for b := range 256 {
			text, part := string([]byte{byte(a)}), string([]byte{byte(b)})
			checkTextIn(t, text, part)
			checkTextIn(t, "x"+text+"\xff", part)
			checkTextIn(t, text+"Q", part+"q")
		}
	}
}

func TestTextInOfAllSmall(t *testing.T) {
	var parts []string
	allTexts([]string{"a", "A", "b", "@"}, 3, func(part string) { parts = append(parts, part) })
	allTexts([]string{"a", "A", "b", "@"}, 4, func(text string) {
		for _, part := range parts {
			checkTextIn(t, text, part)
		}
	})
}

// A text has each of its pieces, in letters of either size, with whatever is around it.
func TestTextInPieces(t *testing.T) {
	rng := rand.New(rand.NewSource(80))
	for range 400 {
		text := someBytes(rng, rng.Intn(20), []string{"", "abAB ", "azAZ@[`{"}[rng.Intn(3)])
		around := someBytes(rng, rng.Intn(9), "")
		for from := range len(text) + 1 {
			for to := from; to <= len(text); to++ {
				part := []byte(text[from:to])
				for i, b := range part {
					if (b >= 'a' && b <= 'z' || b >= 'A' && b <= 'Z') && rng.Intn(2) == 0 {
						part[i] = b ^ 32
					}
				}
				if !impl.TextIn(text, string(part)) || !impl.TextIn(around+text, string(part)) || !impl.TextIn(text+around, string(part)) {
					t.Fatalf("%q in %q", part, text)
				}
			}
		}
		checkTextIn(t, text, around)
		if impl.TextIn(text, text+around) != (around == "") {
			t.Fatalf("%q in %q", text+around, text)
		}
	}
}

// three is a store of three events, two of which have tea in their titles.
func three(t *testing.T) impl.Store {
	t.Helper()
	s, _ := impl.StoreNew(named("utc"))
	for i, title := range []string{"Tea time", "walk", "more TEA"} {
		s = mustPut(t, s, impl.Event{Id: string([]byte{byte('c' - i)}), Title: title, Zone: "utc", Start: 1000000 + i*100, Long: 30})
	}
	return s
}

func checkFind(t *testing.T, s impl.Store, f impl.Filter, want string) {
	t.Helper()
	got := impl.Find(s, f)
	if !slices.Equal(got, foundOf(want)) || !slowFoundOk(got) {
		t.Errorf("%+v: %v, not %s", f, got, want)
	}
}

func TestFindExamples(t *testing.T) {
	s := three(t)
	for _, c := range []struct {
		text     string
		from, to int
		want     string
	}{
		{"tea", 999000, 1001000, "c 1000000 a 1000200"}, {"TEA", 999000, 1001000, "c 1000000 a 1000200"}, {"", 999000, 1001000, "c 1000000 b 1000100 a 1000200"}, {"tea ", 999000, 1001000, "c 1000000"}, {" tea", 999000, 1001000, "a 1000200"}, {"l", 999000, 1001000, "b 1000100"}, {"more tea!", 999000, 1001000, ""},
		{"", 1000000, 1000001, "c 1000000"}, {"", 999999, 1000000, ""}, {"", 1000029, 1000030, "c 1000000"}, {"", 1000030, 1000100, ""}, {"", 1000030, 1000101, "b 1000100"}, {"", 1000129, 1000201, "b 1000100 a 1000200"}, {"tea", 1000129, 1000201, "a 1000200"}, {"", 1000010, 1000010, "c 1000000"}, {"", 1000000, 1000000, ""}, {"", 1000015, 1000010, "c 1000000"},
		{"", 0, impl.TimeMax, "c 1000000 b 1000100 a 1000200"}, {"", -1, 1001000, ""}, {"", 999000, impl.TimeMax + 1, ""}, {"", math.MinInt, math.MaxInt, ""}, {"", 999000, math.MaxInt, ""}, {"", math.MinInt, 1001000, ""}, {"", impl.TimeMax, 0, ""},
	} {
		checkFind(t, s, impl.Filter{Text: c.text, From: c.from, To: c.to}, c.want)
	}
	none, _ := impl.StoreNew(named("utc"))
	checkFind(t, none, impl.Filter{From: 0, To: impl.TimeMax}, "")
	for _, bad := range []impl.Store{{Zones: named("utc"), Events: s.Events}, {Events: s.Events, State: 9}, {Zones: named("utc"), Events: backEvents(s.Events), State: 9}, {Zones: named("utc"), Events: s.Events, State: 1000001}, {Zones: named("utc"), Events: s.Events, State: 9, Notes: notesOf("3a")}} {
		checkFind(t, bad, impl.Filter{From: 0, To: impl.TimeMax}, "")
	}
}

func backEvents(events []impl.Event) []impl.Event {
	events = slices.Clone(events)
	slices.Reverse(events)
	return events
}

// A text that only an Over has, wherever that one is; what is out; the first of several; two at one time.
func TestFindOfChanges(t *testing.T) {
	s, _ := impl.StoreNew(teaZones(t))
	e := tea(t)
	e.Title = "tea"
	e.Outs = []int{mustTime(t, "2026-03-27T09:00")}
	e.Overs = []impl.Over{{At: mustTime(t, "2026-03-29T09:00"), Start: mustTime(t, "2026-03-29T10:30"), Long: 90, Title: "Long Talk"}, {At: mustTime(t, "2026-04-20T09:00"), Start: mustTime(t, "2026-03-28T08:00"), Long: 1, Title: "early"}}
	s = mustPut(t, s, e)
	other := impl.Event{Id: "a", Title: "walk", Zone: "utc", Start: mustTime(t, "2026-03-28T07:00"), Long: 5}
	s = mustPut(t, s, other)
	at := func(text string) int { return mustTime(t, text) }
	from, to := at("2026-03-27T00:00"), at("2026-03-31T00:00")
	for _, c := range []struct {
		text     string
		from, to int
		want     string
	}{
		{"tea", from, to, "tea " + fmt.Sprint(at("2026-03-28T07:00"))}, {"talk", from, to, "tea " + fmt.Sprint(at("2026-03-28T07:00"))}, {"early", from, to, "tea " + fmt.Sprint(at("2026-03-28T07:00"))}, {"talk", at("2026-04-05T00:00"), at("2026-04-06T00:00"), "tea " + fmt.Sprint(at("2026-04-05T07:00"))}, {"talks", from, to, ""},
		{"", from, to, fmt.Sprintf("a %d tea %d", at("2026-03-28T07:00"), at("2026-03-28T07:00"))}, {"", at("2026-03-28T07:02"), to, fmt.Sprintf("a %d tea %d", at("2026-03-28T07:00"), at("2026-03-28T08:00"))}, {"", at("2026-03-29T09:00"), to, "tea " + fmt.Sprint(at("2026-03-29T08:30"))}, {"", at("2026-04-20T00:00"), at("2026-04-21T00:00"), ""}, {"", from, at("2026-03-28T00:00"), ""}, {"wal", from, to, "a " + fmt.Sprint(at("2026-03-28T07:00"))},
	} {
		checkFind(t, s, impl.Filter{Text: c.text, From: c.from, To: c.to}, c.want)
	}
}

// As many as a store may have are found; and at the end of all time what has no time is found ahead of all others.
func TestFindOfMany(t *testing.T) {
	s, _ := impl.StoreNew([]impl.Zone{{Name: "behind", Shift: -1440}, {Name: "utc"}})
	want := ""
	for i := range 12 {
		id := fmt.Sprintf("n%02d", 11-i)
		s = mustPut(t, s, impl.Event{Id: id, Zone: "utc", Start: 1000000 + i/2*7, Long: 30})
	}
	for i := 0; i < 12; i += 2 {
		want += fmt.Sprintf("n%02d %d n%02d %d ", 10-i, 1000000+i/2*7, 11-i, 1000000+i/2*7)
	}
	checkFind(t, s, impl.Filter{From: 999000, To: 1001000}, want)
	last := impl.TimeMax - 2*dayMinutes + 1
	e := impl.Event{Id: "z", Zone: "behind", Start: last - 20*dayMinutes, Long: 7, Rule: impl.Rule{Freq: impl.FreqDay, Every: 1}}
	s = mustPut(t, mustGone(t, s, "n00"), e)
	found := impl.Find(s, impl.Filter{From: 0, To: 1000001})
	if text := fmt.Sprint(found); text != "[{z -1} {n10 1000000} {n11 1000000}]" || !impl.FoundOk(found) {
		t.Error(text)
	}
}

// Find of stores of all sorts, against the long way; without a text it is where hits begin.
func TestFindOfAllSorts(t *testing.T) {
	rng := rand.New(rand.NewSource(81))
	several, none := 0, 0
	for range 30 {
		around := someBeginning(rng)
		zones := someClocks(rng, around)
		s, _ := impl.StoreNew(zones)
		all, allTimes := someItems(rng, zones, around, someIds[:rng.Intn(13)])
		var events []impl.Event
		var times [][]int
		for i, e := range all {
			if i+1 < len(all) && all[i+1].Id == e.Id {
				continue
			}
			s = mustPut(t, s, e)
			events, times = append(events, e), append(times, allTimes[i])
		}
		for range 20 {
			from, to := min(around+rng.Intn(100000)-50000, impl.TimeMax), impl.TimeMax
			if len(events) > 0 {
				k := rng.Intn(len(events))
				from, to = someSpan(rng, zones, events[k], times[k])
			}
			for _, text := range []string{"", "e", "A ", someBytes(rng, 1, "")} {
				f := impl.Filter{Text: text, From: from, To: to}
				got := impl.Find(s, f)
				if want := slowFind(zones, events, times, f); !slices.Equal(got, want) || !impl.FoundOk(got) {
					t.Fatalf("%s, %+v: %v, not %v", storeAt(s), f, got, want)
				}
				if len(got) > 1 {
					several++
				} else {
					none++
				}
			}
			checkAllFound(t, s, from, to)
		}
	}
	if several < 200 || none < 200 {
		t.Error(several, none)
	}
}

// checkAllFound asks whether just what comes is found, where it begins first.
func checkAllFound(t *testing.T, s impl.Store, from int, to int) {
	t.Helper()
	var want []impl.Found
	for _, e := range s.Events {
		if hits := impl.EventHits(s.Zones, e, from, to); len(hits) > 0 {
			want = append(want, impl.Found{Id: e.Id, At: hits[0].From})
		}
	}
	if got := impl.Find(s, impl.Filter{From: from, To: to}); !slices.Equal(got, inOrder(want)) {
		t.Fatalf("%s from %d to %d: %v, not %v", storeAt(s), from, to, got, want)
	}
}

func TestFoundOk(t *testing.T) {
	for _, c := range []struct {
		list string
		ok   bool
	}{
		{"", true}, {"a 1", true}, {"a 1 b 1", true}, {"b 1 a 1", false}, {"b 1 a 2", true}, {"a 2 b 1", false}, {"a 1 a 1", false}, {"a 1 a 2", false}, {"a 1 b 2 a 3", false}, {"a 1 ab 1", true}, {"ab 1 a 1", false}, {"9 1 a 1", true}, {"a 1 9 1", false}, {"10 1 9 1", true},
		{"a -1", true}, {"a -1 b -2", false}, {"a -2 b -1", true}, {"A 1", false}, {"abcdefgh 1", true}, {"abcdefghi 1", false}, {"a-b 1", false}, {"é 1", false}, {"a 1 A 2", false}, {"A 0 a 1", false},
		{"a 1 b 2 c 3 d 4 e 5 f 6 g 7 h 8 i 9 j 10 k 11 l 12", true}, {"a 1 b 2 c 3 d 4 e 5 f 6 g 7 h 8 i 9 j 10 k 11 l 12 m 13", false}, {"a 1 b 1 c 1 d 1 e 1 f 1 g 1 h 1 i 1 j 1 k 1 l 1", true}, {"a 1 b 1 c 1 d 1 e 1 f 1 g 1 h 1 i 1 j 1 k 1 a 2", false},
	} {
		if list := foundOf(c.list); impl.FoundOk(list) != c.ok || slowFoundOk(list) != c.ok {
			t.Errorf("%s: %v", c.list, impl.FoundOk(list))
		}
	}
	for _, list := range [][]impl.Found{{{Id: ""}}, {{Id: "a", At: math.MaxInt}, {Id: "b", At: math.MinInt}}, make([]impl.Found, 13), make([]impl.Found, 1000000)} {
		if impl.FoundOk(list) {
			t.Errorf("%v", list[:1])
		}
	}
	if !impl.FoundOk([]impl.Found{{Id: "b", At: math.MinInt}, {Id: "a", At: math.MaxInt}}) || !impl.FoundOk([]impl.Found{}) {
		t.Error("the least and the greatest")
	}
}

// allFound calls for each list of at most so many of some names at few times, most of them not ok.
func allFound(most int, ids []string, each func(list []impl.Found)) {
	var list []impl.Found
	var more func()
	more = func() {
		each(list)
		if len(list) == most {
			return
		}
		for _, id := range ids {
			for at := range 3 {
				list = append(list, impl.Found{Id: id, At: at})
				more()
				list = list[:len(list)-1]
			}
		}
	}
	more()
}

// checkTurned asks for what turned, does it, and asks for each part of it.
func checkTurned(t *testing.T, old []impl.Found, fresh []impl.Found) {
	t.Helper()
	turn := impl.FindNews(old, fresh)
	if want := slowFindNews(old, fresh); !sameTurned(turn, want) {
		t.Fatalf("%v and %v: %v, not %v", old, fresh, turn, want)
	}
	if !slowFoundOk(old) || !slowFoundOk(fresh) {
		return
	}
	if got, ok := impl.FindDo(old, turn); !ok || !slices.Equal(got, fresh) {
		t.Fatalf("%v and %v: %v leads to %v, %v", old, fresh, turn, got, ok)
	}
	if len(old)-len(turn.Gone)+len(turn.Come) != len(fresh) || len(turn.Come) != len(turn.At) {
		t.Fatalf("%v and %v: %v", old, fresh, turn)
	}
	for i, f := range turn.Come {
		if fresh[turn.At[i]] != f || slices.Contains(old, f) {
			t.Fatalf("%v and %v: %v", old, fresh, turn)
		}
	}
	if slices.Equal(old, fresh) != sameTurned(turn, impl.Turned{}) {
		t.Fatalf("%v and %v: %v", old, fresh, turn)
	}
}

func TestFoundOfAllSmall(t *testing.T) {
	var lists [][]impl.Found
	allFound(3, []string{"a", "ab", "b"}, func(list []impl.Found) {
		if ok := slowFoundOk(list); impl.FoundOk(list) != ok {
			t.Fatalf("%v: %v", list, !ok)
		} else if ok || len(list) == 2 {
			lists = append(lists, slices.Clone(list))
		}
	})
	for _, old := range lists {
		for _, fresh := range lists {
			checkTurned(t, old, fresh)
		}
	}
}

func TestFindNewsExamples(t *testing.T) {
	for _, c := range []struct {
		old, fresh, gone, come string
		at                     []int
	}{
		{"c 100 a 120", "a 120 c 130", "c", "c 130", []int{1}}, {"a 1 b 2", "a 1 b 2", "", "", nil}, {"", "a 1 b 2", "", "a 1 b 2", []int{0, 1}}, {"a 1 b 2", "", "a b", "", nil}, {"b 1 a 2", "", "b a", "", nil}, {"a 1 b 2 c 3", "b 2", "a c", "", nil}, {"b 2", "a 1 b 2 c 3", "", "a 1 c 3", []int{0, 2}},
		{"a 1 b 2", "b 1 a 2", "a b", "b 1 a 2", []int{0, 1}}, {"z 1 m 2 a 3", "y 2", "z m a", "y 2", []int{0}}, {"b 5 a 7", "a 7 b 7", "b", "b 7", []int{1}}, {"a 1", "A 1", "", "", nil}, {"a 1 a 2", "a 1", "", "", nil}, {"a 2 b 1", "", "", "", nil}, {"", "a 2 b 1", "", "", nil},
	} {
		old, fresh := foundOf(c.old), foundOf(c.fresh)
		checkTurned(t, old, fresh)
		if got, want := impl.FindNews(old, fresh), (impl.Turned{Gone: strings.Fields(c.gone), Come: foundOf(c.come), At: c.at}); !sameTurned(got, want) {
			t.Errorf("%s and %s: %v, not %v", c.old, c.fresh, got, want)
		}
	}
}

func checkFindDo(t *testing.T, old []impl.Found, turn impl.Turned) bool {
	t.Helper()
	got, ok := impl.FindDo(old, turn)
	want, is := slowFindDo(old, turn)
	if ok != is || !slices.Equal(got, want) {
		t.Fatalf("%v, %v: %v %v, not %v %v", old, turn, got, ok, want, is)
	}
	if ok && (!impl.FoundOk(got) || len(got) != len(old)-len(turn.Gone)+len(turn.Come)) || !ok && impl.FoundOk(old) && !slices.Equal(got, old) {
		t.Fatalf("%v, %v: %v %v", old, turn, got, ok)
	}
	return ok
}

func TestFindDoExamples(t *testing.T) {
	const twelveFound = "a 1 b 1 c 1 d 1 e 1 f 1 g 1 h 1 i 1 j 1 k 1 l 1"
	for _, c := range []struct {
		old, gone, come string
		at              []int
		want            string
		ok              bool
	}{
		{"a 1 b 2", "", "", nil, "a 1 b 2", true}, {"a 1 b 2", "a", "", nil, "b 2", true}, {"a 1 b 2", "b a", "", nil, "", true}, {"a 1 b 2", "a a", "", nil, "a 1 b 2", false}, {"a 1 b 2", "z", "", nil, "a 1 b 2", false}, {"a 1 b 2", "a z", "", nil, "a 1 b 2", false}, {"a 1 b 2", "A", "", nil, "a 1 b 2", false},
		{"a 1 c 3", "", "b 2", []int{1}, "a 1 b 2 c 3", true}, {"a 1 c 3", "", "b 2", []int{0}, "a 1 c 3", false}, {"a 1 c 3", "", "b 2", []int{2}, "a 1 c 3", false}, {"a 1 c 3", "", "d 4", []int{2}, "a 1 c 3 d 4", true}, {"a 1 c 3", "", "d 4", []int{3}, "a 1 c 3", false}, {"a 1 c 3", "", "d 0", []int{0}, "d 0 a 1 c 3", true}, {"a 1 c 3", "", "d 0", []int{-1}, "a 1 c 3", false}, {"a 1 c 3", "", "d 0", []int{math.MinInt}, "a 1 c 3", false}, {"a 1 c 3", "", "d 9", []int{math.MaxInt}, "a 1 c 3", false},
		{"a 1 c 3", "", "b 2", nil, "a 1 c 3", false}, {"a 1 c 3", "", "b 2", []int{1, 2}, "a 1 c 3", false}, {"a 1 c 3", "", "", []int{1}, "a 1 c 3", false}, {"a 1 c 3", "", "b 2 d 4", []int{1}, "a 1 c 3", false}, {"a 1 c 3", "", "b 2 d 4", []int{1, 3}, "a 1 b 2 c 3 d 4", true}, {"a 1 c 3", "", "d 4 b 2", []int{2, 1}, "a 1 b 2 c 3 d 4", true}, {"a 1 c 3", "", "d 4 b 2", []int{3, 1}, "a 1 c 3", false},
		{"a 1 c 3", "a", "a 4", []int{1}, "c 3 a 4", true}, {"a 1 c 3", "", "a 4", []int{2}, "a 1 c 3", false}, {"a 1 c 3", "a", "a 1", []int{0}, "a 1 c 3", true}, {"a 1 c 3", "c", "c 1", []int{1}, "a 1 c 1", true}, {"a 1 c 3", "c", "c 1", []int{0}, "a 1 c 3", false}, {"a 1", "", "A 2", []int{1}, "a 1", false}, {"", "", "a 1", []int{0}, "a 1", true}, {"", "", "a 1", []int{1}, "", false}, {"", "", "b 1 a 1", []int{0, 0}, "a 1 b 1", true}, {"", "", "b 1 b 2", []int{0, 1}, "", false}, {"", "a", "", nil, "", false},
		{twelveFound, "", "m 2", []int{12}, twelveFound, false}, {twelveFound, "a", "m 2", []int{11}, twelveFound[4:] + " m 2", true}, {twelveFound, "a", "m 2 n 2", []int{11, 12}, twelveFound, false}, {twelveFound, "", "", nil, twelveFound, true}, {twelveFound, "a b c d e f g h i j k l", "", nil, "", true}, {twelveFound, "a b c d e f g h i j k l a", "", nil, twelveFound, false},
		{"b 2 a 1", "", "", nil, "", false}, {"b 2 a 1", "b", "", nil, "", false}, {"A 1", "A", "", nil, "", false}, {"a 1 a 1", "a", "", nil, "", false},
	} {
		old, turn := foundOf(c.old), impl.Turned{Gone: strings.Fields(c.gone), Come: foundOf(c.come), At: c.at}
		checkFindDo(t, old, turn)
		if got, ok := impl.FindDo(old, turn); ok != c.ok || !slices.Equal(got, foundOf(c.want)) {
			t.Errorf("%s, %v: %v %v", c.old, turn, got, ok)
		}
	}
}

// All that may turn of small lists: two gone, two come, at all places.
func TestFindDoOfAllSmall(t *testing.T) {
	oks := 0
	var comes [][]impl.Found
	allFound(2, []string{"a", "c"}, func(list []impl.Found) { comes = append(comes, slices.Clone(list)) })
	gones := [][]string{nil, {"a"}, {"b"}, {"a", "b"}, {"b", "a"}, {"a", "a"}, {"z"}, {"a", "z"}}
	allFound(2, []string{"a", "b"}, func(list []impl.Found) {
		for _, gone := range gones {
			for _, come := range comes {
				for at := range 36 {
					places := []int{at/6 - 1, at%6 - 1}[:len(come)]
					if checkFindDo(t, list, impl.Turned{Gone: gone, Come: come, At: places}) {
						oks++
					}
				}
			}
		}
	})
	if oks < 1000 {
		t.Error(oks)
	}
}

func TestTurnedOfAllSorts(t *testing.T) {
	rng := rand.New(rand.NewSource(82))
	for range 4000 {
		old, fresh := someFound(rng, rng.Intn(13)), someFound(rng, 12)
		checkTurned(t, old, fresh)
		turn := impl.FindNews(old, fresh)
		other := someFound(rng, 12)
		checkFindDo(t, other, turn)
		if len(turn.At) > 0 {
			turn.At[rng.Intn(len(turn.At))] += rng.Intn(3) - 1
		}
		if len(turn.Gone) > 0 && rng.Intn(3) == 0 {
			turn.Gone = turn.Gone[1:]
		}
		checkFindDo(t, old, turn)
	}
}

// Who keeps what was found, and does what turned, finds what the store finds, behind each change of it.
func TestFollowWhatIsFound(t *testing.T) {
	rng := rand.New(rand.NewSource(84))
	turns := 0
	for range 25 {
		around := someBeginning(rng)
		zones := someClocks(rng, around)
		events, _ := someItems(rng, zones, around, someIds[:12])
		s, _ := impl.StoreNew(zones)
		f := impl.Filter{Text: []string{"", "e", "A"}[rng.Intn(3)], From: max(around-30000, 0), To: min(around+30000, impl.TimeMax)}
		kept := impl.Find(s, f)
		for range 25 {
			e := events[rng.Intn(len(events))]
			if rng.Intn(4) == 0 {
				s, _ = impl.StoreGone(s, e.Id, -1)
			} else {
				s = mustPut(t, s, e)
			}
			fresh := impl.Find(s, f)
			turn := impl.FindNews(kept, fresh)
			if len(turn.Gone)+len(turn.Come) > 0 {
				turns++
			}
			next, ok := impl.FindDo(kept, turn)
			if !ok || !slices.Equal(next, fresh) || len(turn.Come) > 1 || len(turn.Gone) > 1 {
				t.Fatalf("%s: %v and %v: %v leads to %v", storeAt(s), kept, fresh, turn, next)
			}
			kept = next
		}
	}
	if turns < 100 {
		t.Error(turns)
	}
}

// checkPatchDo does patches, and holds what they lead to against the long way, and against PatchOf.
func checkPatchDo(t *testing.T, e impl.Event, list []impl.Patch) (impl.Event, bool) {
	t.Helper()
	got, ok := impl.PatchDo(e, list)
	want, is := slowPatchDo(e, list)
	if ok != is || !sameEvent(got, want) {
		t.Fatalf("%s, %q: %v %s, not %v %s", eventAt(e), list[:min(len(list), 20)], ok, eventAt(got), is, eventAt(want))
	}
	if ok {
		checkPatchOf(t, e, got)
	}
	return got, ok
}

// checkPatchOf asks for patches from one event to another one that may be patched, and does them.
func checkPatchOf(t *testing.T, a impl.Event, b impl.Event) []impl.Patch {
	t.Helper()
	list := impl.PatchOf(a, b)
	if want := slowPatchOf(a, b); !slices.Equal(list, want) {
		t.Fatalf("%s to %s: %q, not %q", eventAt(a), eventAt(b), list, want)
	}
	if !mayPatch(a) || !mayPatch(b) {
		if len(list) > 0 {
			t.Fatalf("%s to %s: %q", eventAt(a), eventAt(b), list)
		}
		return nil
	}
	if got, ok := impl.PatchDo(a, list); !ok || !sameEvent(got, b) {
		t.Fatalf("%s, %q: %v %s", eventAt(a), list, ok, eventAt(got))
	}
	if sameEvent(a, b) != (len(list) == 0) {
		t.Fatalf("%s to %s: %q", eventAt(a), eventAt(b), list)
	}
	return list
}

func TestPatchExamples(t *testing.T) {
	e := impl.Event{Id: "c", Title: "Tea time", Zone: "utc", Start: 1000300, Long: 30}
	f := e
	f.Long, f.Rule = 45, impl.Rule{Freq: impl.FreqDay, Every: 1, Count: 3}
	if list := checkPatchOf(t, e, f); fmt.Sprint(list) != "[{long 45} {rule FREQ=DAILY;COUNT=3}]" {
		t.Error(list)
	}
	if list := checkPatchOf(t, f, e); fmt.Sprint(list) != "[{long 30} {rule }]" {
		t.Error(list)
	}
	whole := impl.Event{Id: "tea", Title: "a|b;c", Zone: "north", Start: mustTime(t, "2026-03-27T09:00"), Long: 60, Rule: impl.Rule{Freq: impl.FreqDay, Every: 1}, Outs: []int{mustTime(t, "2026-03-28T09:00"), mustTime(t, "2026-03-30T09:00")}}
	whole.Overs = []impl.Over{{At: mustTime(t, "2026-03-29T09:00"), Start: mustTime(t, "2026-03-29T10:30"), Long: 90, Title: "long tea"}, {At: mustTime(t, "2026-03-31T09:00"), Start: mustTime(t, "2026-03-31T08:00"), Long: 1}}
	want := []impl.Patch{{Field: "id", Text: "tea"}, {Field: "title", Text: "a|b;c"}, {Field: "zone", Text: "north"}, {Field: "start", Text: "2026-03-27T09:00"}, {Field: "long", Text: "60"}, {Field: "rule", Text: "FREQ=DAILY"}, {Field: "outs", Text: "2026-03-28T09:00,2026-03-30T09:00"}, {Field: "overs", Text: "2026-03-29T09:00;2026-03-29T10:30;90;long tea|2026-03-31T09:00;2026-03-31T08:00;1;|"}}
	if list := checkPatchOf(t, e, whole); !slices.Equal(list, want) {
		t.Errorf("%q", list)
	}
	back := []impl.Patch{{Field: "id", Text: "c"}, {Field: "title", Text: "Tea time"}, {Field: "zone", Text: "utc"}, {Field: "start", Text: "0002-11-26T15:40"}, {Field: "long", Text: "30"}, {Field: "rule"}, {Field: "outs"}, {Field: "overs"}}
	if list := checkPatchOf(t, whole, e); !slices.Equal(list, back) {
		t.Errorf("%q", list)
	}
	// All fields in whatever order: what is ok only together is ok behind the last of them.
	slices.Reverse(want)
	if got, ok := checkPatchDo(t, e, want); !ok || !sameEvent(got, whole) {
		t.Errorf("%v %s", ok, eventAt(got))
	}
	for i := range want {
		if got, ok := checkPatchDo(t, e, slices.Delete(slices.Clone(want), i, i+1)); ok && sameEvent(got, whole) {
			t.Errorf("without %q: %s", want[i].Field, eventAt(got))
		}
	}
	if got, ok := checkPatchDo(t, e, nil); !ok || !sameEvent(got, e) {
		t.Errorf("%v %s", ok, eventAt(got))
	}
}

// Patches of which one has a text, or a field, that is none; ones that are ok only together; and the same field twice.
func TestPatchEdges(t *testing.T) {
	e := impl.Event{Id: "c", Title: "tea", Zone: "utc", Start: mustTime(t, "2026-01-01T09:00"), Long: 30}
	for _, c := range []struct {
		patches string
		ok      bool
	}{
		{"", true}, {"long=45", true}, {"long=045", false}, {"long=+45", false}, {"long=-45", false}, {"long=0", false}, {"long=-0", false}, {"long=00", false}, {"long=", false}, {"long= 45", false}, {"long=45 ", false}, {"long=4e1", false}, {"long=0x2", false}, {"long=1_0", false}, {"long=20160", true}, {"long=20161", false}, {"long=1", true}, {"long=99999999999999999999", false}, {"long=9223372036854775808", false}, {"long=４", false},
		{"none=x", false}, {"=x", false}, {"Long=45", false}, {"long =45", false}, {"lon=45", false}, {"longer=45", false}, {"id=", false}, {"id=A", false}, {"id=abcdefgh", true}, {"id=abcdefghi", false}, {"zone=nowhere", true}, {"zone=", false}, {"zone=North", false}, {"title=", true}, {"title=0123456789abcdef", true}, {"title=0123456789abcdefg", false}, {"title=\n", false}, {"title=é", false}, {"title=;", true},
		{"start=2026-01-01T00:00", true}, {"start=0001-01-03T00:00", true}, {"start=0001-01-02T23:59", false}, {"start=9999-12-15T23:59", true}, {"start=9999-12-16T00:00", false}, {"start=2026-01-01", false}, {"start=2026-01-01T24:00", false}, {"start=2026-1-1T00:00", false}, {"start=", false}, {"start=1065000000", false},
		{"rule=", true}, {"rule=X", false}, {"rule=FREQ=DAILY", true}, {"rule=FREQ=DAILY;INTERVAL=1", false}, {"rule=FREQ=DAILY;COUNT=05", false}, {"rule=freq=daily", false}, {"rule=FREQ=DAILY;", false}, {"rule=FREQ=DAILY;COUNT=3;INTERVAL=2", false}, {"rule= ", false},
		{"outs=2026-01-01T00:00", false}, {"outs=2026-01-01T09:00", true}, {"outs=2026-01-01T09:00,", false}, {"outs=,2026-01-01T09:00", false}, {"outs=,", false}, {"outs=2026-01-01T09:00,2026-01-01T09:00", false}, {"outs=x", false}, {"outs=2026-01-01T09:00 ", false}, {"outs=", true},
		{"rule=FREQ=DAILY|outs=2026-01-02T09:00,2026-01-03T09:00", true}, {"outs=2026-01-02T09:00,2026-01-03T09:00|rule=FREQ=DAILY", true}, {"outs=2026-01-02T09:00", false}, {"rule=FREQ=DAILY|outs=2026-01-03T09:00,2026-01-02T09:00", false}, {"rule=FREQ=DAILY|outs=2026-01-02T09:00, 2026-01-03T09:00", false}, {"rule=FREQ=WEEKLY|outs=2026-01-02T09:00", false}, {"outs=2026-01-02T09:00|rule=FREQ=DAILY|rule=", false}, {"outs=2026-01-02T09:00|rule=FREQ=DAILY|rule=|outs=", true},
		{"long=45|long=50", true}, {"long=45|long=x", false}, {"long=x|long=45", false}, {"id=a|id=b|id=c", true}, {"long=45|none=1", false}, {"none=1|long=45", false}, {"start=2026-01-02T09:00|outs=2026-01-02T09:00", true}, {"outs=2026-01-02T09:00|start=2026-01-02T09:00", true}, {"outs=2026-01-02T09:00|start=2026-01-02T09:00|start=2026-01-03T09:00", false},
	} {
		list := patchesOf(c.patches)
		got, ok := checkPatchDo(t, e, list)
		if ok != c.ok || !ok && !sameEvent(got, e) {
			t.Errorf("%s: %v %s", c.patches, ok, eventAt(got))
		}
		for i := range list {
			if ok && i == len(list)-1 && slowFields(got)[slices.IndexFunc(slowFields(got), func(p impl.Patch) bool { return p.Field == list[i].Field })] != list[i] {
				t.Errorf("%s: %s", c.patches, eventAt(got))
			}
		}
	}
}

// Texts of changes: signs that are missing, or one too many, numbers that are none, titles with signs that part.
func TestPatchOvers(t *testing.T) {
	e := impl.Event{Id: "c", Title: "a|b", Zone: "utc", Start: mustTime(t, "2026-01-01T09:00"), Long: 30, Rule: impl.Rule{Freq: impl.FreqDay, Every: 1}}
	const a, b = "2026-01-02T09:00;2026-01-02T10:00;", "2026-01-04T09:00;2026-01-03T10:00;"
	for _, c := range []struct {
		text string
		ok   bool
	}{
		{"", true}, {a + "5;late|", true}, {a + "5;|", true}, {a + "5; |", true}, {a + "5;late|" + b + "20160;x|", true}, {b + "5;late|" + a + "5;x|", false}, {a + "5;late|" + a + "5;late|", false},
		{a + "5;late", false}, {a + "5;late||", false}, {"|" + a + "5;late|", false}, {"|", false}, {";;;|", false}, {a + "5|", false}, {a + "|", false}, {a + ";late|", false}, {a + "05;late|", false}, {a + "+5;late|", false}, {a + "-5;late|", false}, {a + "0;late|", false}, {a + "20161;late|", false}, {a + "x;late|", false}, {a + "5;la;te|", false}, {a + "5;late;|", false}, {a + "5;0123456789abcdef|", true}, {a + "5;0123456789abcdefg|", false}, {a + "5;\n|", false}, {a + "5;a,b|", true},
		{"2026-01-02T09:01;2026-01-02T10:00;5;late|", false}, {"2026-01-02T09:00;0001-01-02T23:59;5;late|", false}, {"2026-01-02T09:00;0001-01-03T00:00;5;late|", true}, {";2026-01-02T10:00;5;late|", false}, {"2026-01-02T09:00;;5;late|", false}, {"2026-01-02;2026-01-02T10:00;5;late|", false}, {a + "5;late|x", false}, {a + "5;late|" + b, false}, {a + "5;late\x00|", false}, {"\x00", false},
	} {
		got, ok := checkPatchDo(t, e, []impl.Patch{{Field: "overs", Text: c.text}})
		if ok != c.ok || ok && (len(got.Overs) != strings.Count(c.text, "|") || slowFields(got)[7].Text != c.text) {
			t.Errorf("%q: %v %s", c.text, ok, eventAt(got))
		}
	}
	whole := e
	whole.Overs = []impl.Over{{At: e.Start, Start: e.Start, Long: 1, Title: "x|"}}
	for _, title := range []string{"|", ";", "a|b", "a;b", "x|", "x", ""} {
		whole.Overs[0].Title = title
		checkPatchDo(t, whole, nil)
		checkPatchOf(t, e, whole)
		checkPatchOf(t, whole, e)
		if got, ok := impl.PatchDo(whole, []impl.Patch{{Field: "overs"}}); ok != (len(title) == 0 || title == "x") || !ok && !isNothing(got) {
			t.Errorf("%q: %v %s", title, ok, eventAt(got))
		}
	}
}

// As many patches as may be, and one more; of one field, and of all.
func TestPatchesOfMany(t *testing.T) {
	e := impl.Event{Id: "c", Title: "tea", Zone: "utc", Start: mustTime(t, "2026-01-01T09:00"), Long: 30}
	one := []impl.Patch{{Field: "long", Text: "31"}}
	all := append(slowFields(e), slowFields(e)...)
	for _, c := range []struct {
		list []impl.Patch
		ok   bool
	}{
		{slices.Repeat(one, 15), true}, {slices.Repeat(one, 16), true}, {slices.Repeat(one, 17), false}, {all, true}, {all[:15], true}, {append(slices.Clone(all), one...), false}, {append(slices.Clone(all[1:]), one...), true}, {slices.Repeat(one, 100000), false}, {make([]impl.Patch, 100000), false}, {make([]impl.Patch, 1), false},
	} {
		if _, ok := checkPatchDo(t, e, c.list); ok != c.ok {
			t.Errorf("%d patches: %v", len(c.list), ok)
		}
	}
}

// Each field alone, read in all texts that differ from its own by a byte.
func TestPatchNear(t *testing.T) {
	e := readable(fullTea(t))
	e.Overs = e.Overs[:1]
	oks := 0
	for _, p := range slowFields(e) {
		for _, text := range nearTexts(p.Text) {
			if _, ok := checkPatchDo(t, e, []impl.Patch{{Field: p.Field, Text: text}}); ok {
				oks++
			}
		}
		for _, field := range nearTexts(p.Field) {
			checkPatchDo(t, e, []impl.Patch{{Field: field, Text: p.Text}})
		}
	}
	if oks < 1000 {
		t.Error(oks)
	}
}

// Events that differ in each one part, and in several.
func TestPatchEachField(t *testing.T) {
	e := readable(fullTea(t))
	same, other := otherEvents(t, e)
	all := append(same, other...)
	single := map[string]int{}
	for _, f := range all {
		list := checkPatchOf(t, e, f)
		if len(list) == 1 {
			single[list[0].Field]++
		}
		checkPatchOf(t, f, e)
		checkPatchOf(t, f, f)
		g := copyEvent(f)
		g.Id, g.Zone = "other", "nowhere"
		checkPatchOf(t, f, g)
		checkPatchOf(t, g, e)
	}
	g := copyEvent(e)
	g.Id = "other"
	if list := checkPatchOf(t, e, g); len(list) == 1 {
		single[list[0].Field]++
	}
	if len(single) != 8 {
		t.Error(single)
	}
	for _, f := range wildEvents(t) {
		checkPatchOf(t, e, f)
		checkPatchOf(t, f, e)
		if got, ok := checkPatchDo(t, f, nil); ok != mayPatch(f) || !ok && !isNothing(got) {
			t.Fatalf("%s: %v", eventAt(f), ok)
		}
	}
}

// Events of all sorts, from each to the next one; and some patches of one, done to another.
func TestPatchesOfAllSorts(t *testing.T) {
	var last impl.Event
	done, all := 0, 0
	someEvents(t, 85, 500, func(rng *rand.Rand, zones []impl.Zone, e impl.Event, times []int) {
		if rng.Intn(8) > 0 {
			e = readable(e)
		}
		list := checkPatchOf(t, last, e)
		if len(list) == 8 {
			all++
		}
		for range 4 {
			rng.Shuffle(len(list), func(i, k int) { list[i], list[k] = list[k], list[i] })
			if _, ok := checkPatchDo(t, last, list[:rng.Intn(len(list)+1)]); ok {
				done++
			}
		}
		last = e
	})
	if done < 300 || all < 30 {
		t.Error(done, all)
	}
}

func TestPatchBothExamples(t *testing.T) {
	for _, c := range []struct{ a, b, want string }{
		{"a=1|b=2", "a=3", "b=2|a=3"}, {"", "", ""}, {"a=1", "", "a=1"}, {"", "a=1", "a=1"}, {"a=1", "a=1", "a=1"}, {"a=1|a=2", "", "a=2"}, {"", "a=1|a=2", "a=2"}, {"a=1|b=2|a=3", "c=4", "b=2|a=3|c=4"}, {"a=1|b=2", "b=3|a=4", "b=3|a=4"}, {"a=1|b=2", "c=3", "a=1|b=2|c=3"}, {"=1|A=2", "a=3|=4", "A=2|a=3|=4"}, {"long=1|id=x|long=2", "id=y|zone=z", "long=2|id=y|zone=z"},
	} {
		if got := impl.PatchBoth(patchesOf(c.a), patchesOf(c.b)); !slices.Equal(got, patchesOf(c.want)) {
			t.Errorf("%s and %s: %v", c.a, c.b, got)
		}
	}
	many := make([]impl.Patch, 200000)
	for i := range many {
		many[i] = impl.Patch{Field: fmt.Sprint(i / 2), Text: fmt.Sprint(i)}
	}
	if got := impl.PatchBoth(many, many[:100]); len(got) != 100000 || got[0].Text != "101" || got[99999].Text != "99" {
		t.Error(len(got), got[0])
	}
}

// somePatches are patches of few fields, most of which can be done.
func somePatches(rng *rand.Rand) []impl.Patch {
	pool := patchesOf("id=a|id=b|title=x|title=|zone=z|start=2026-01-01T09:00|start=2026-01-02T09:00|start=2025-12-25T09:00|long=5|long=6|rule=FREQ=DAILY|rule=FREQ=WEEKLY|rule=|outs=|outs=2026-01-02T09:00|outs=2026-01-08T09:00|overs=|long=0|long=x|none=1|id=|zone=A|rule=X")
	pool = append(pool, impl.Patch{Field: "overs", Text: "2026-01-01T09:00;2026-01-05T10:00;9;moved|"}, impl.Patch{Field: "overs", Text: "2026-01-02T09:00;2026-01-05T10:00;9;|"})
	var list []impl.Patch
	for range rng.Intn(6) {
		list = append(list, pool[rng.Intn(len(pool))])
	}
	return list
}

// Two lists of patches, one behind the other, are done as one, if all can be done; of each field there is one.
func TestPatchBothOfAllSorts(t *testing.T) {
	rng := rand.New(rand.NewSource(87))
	done := 0
	e := impl.Event{Id: "c", Title: "tea", Zone: "utc", Start: mustTime(t, "2026-01-01T09:00"), Long: 30, Rule: impl.Rule{Freq: impl.FreqDay, Every: 1}}
	for range 30000 {
		a, b := somePatches(rng), somePatches(rng)
		both := impl.PatchBoth(a, b)
		if want := slowPatchBoth(a, b); !slices.Equal(both, want) {
			t.Fatalf("%v and %v: %v, not %v", a, b, both, want)
		}
		once := map[string]int{}
		for _, p := range both {
			if once[p.Field]++; once[p.Field] > 1 {
				t.Fatalf("%v and %v: %v", a, b, both)
			}
		}
		first, ok := checkPatchDo(t, e, a)
		if !ok {
			continue
		}
		second, ok := checkPatchDo(t, first, b)
		if !ok {
			continue
		}
		done++
		if got, ok := checkPatchDo(t, e, both); !ok || !sameEvent(got, second) {
			t.Fatalf("%v and %v: %v leads to %v %s", a, b, both, ok, eventAt(got))
		}
	}
	if done < 1000 {
		t.Error(done)
	}
}
