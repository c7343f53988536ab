package tests

import (
	"fmt"
	"math"
	"math/rand"
	"slices"
	"strings"
	"testing"

	"loop.example/ephemeris/impl"
)

func TestHitsPut(t *testing.T) {
	at := mustTime(t, "2026-03-27T09:00")
	for _, c := range []struct {
		list []impl.Hit
		want string
	}{
		{nil, ""}, {[]impl.Hit{}, ""},
		{[]impl.Hit{{Id: "tea", At: at, From: at - 60, To: at - 30, Title: "tea"}}, "tea 2026-03-27T09:00 2026-03-27T08:00 2026-03-27T08:30 tea\n"},
		{[]impl.Hit{{Id: "a", At: at, From: at, To: at + 1}, {Id: "b", At: 0, From: impl.TimeMax, To: impl.TimeMax, Title: "a b"}}, "a 2026-03-27T09:00 2026-03-27T09:00 2026-03-27T09:01 \nb 0001-01-01T00:00 9999-12-31T23:59 9999-12-31T23:59 a b\n"},
		{[]impl.Hit{{Id: "z", At: impl.TimeMax, From: -1, To: 6, Title: "x"}, {To: impl.TimeMax + 1, From: impl.TimeMax}}, "z 9999-12-31T23:59  0001-01-01T00:06 x\n 0001-01-01T00:00 9999-12-31T23:59  \n"},
		{[]impl.Hit{{Id: "\xff", At: math.MinInt, From: math.MaxInt, To: -5, Title: " "}}, "\xff     \n"},
	} {
		if got := impl.HitsPut(c.list); got != c.want || slowHitsPut(c.list) != c.want {
			t.Errorf("%q", got)
		}
	}
	many := make([]impl.Hit, 20000)
	if got := impl.HitsPut(many); strings.Count(got, "\n") != 20000 || len(got) != 20000*len(" 0001-01-01T00:00 0001-01-01T00:00 0001-01-01T00:00 \n") {
		t.Error(len(got))
	}
}

// Hits of all sorts have a line each, which tells all of it.
func TestHitsPutOfAllSorts(t *testing.T) {
	lines := 0
	someEvents(t, 38, 150, func(rng *rand.Rand, zones []impl.Zone, e impl.Event, times []int) {
		from, to := someSpan(rng, zones, e, times)
		hits := impl.EventHits(zones, e, from, to)
		text := impl.HitsPut(hits)
		if text != slowHitsPut(hits) || strings.Count(text, "\n") != len(hits) {
			t.Fatalf("%q", text)
		}
		lines += len(hits)
		whole := ""
		for _, h := range hits {
			whole += impl.HitsPut([]impl.Hit{h})
		}
		if text != whole {
			t.Fatalf("%q, one by one %q", text, whole)
		}
	})
	if lines < 500 {
		t.Error(lines)
	}
}

// checkEventPut writes an event, and reads it back.
func checkEventPut(t *testing.T, e impl.Event) string {
	t.Helper()
	text := impl.EventPut(e)
	if want := slowEventPut(e); text != want {
		t.Fatalf("%s: %q, not %q", eventAt(e), text, want)
	}
	if text != "" {
		if got, ok := impl.EventGet(text); !ok || !sameEvent(got, e) {
			t.Fatalf("%q: %v %s", text, ok, eventAt(got))
		}
	}
	return text
}

func checkEventGet(t *testing.T, text string) bool {
	t.Helper()
	got, ok := impl.EventGet(text)
	want, is := slowEventGet(text)
	if ok != is || !sameEvent(got, want) || ok && impl.EventPut(got) != text {
		t.Fatalf("%.200q: %v %s, not %v", text, ok, eventAt(got), is)
	}
	return ok
}

// fullLine is an event with all that a line may tell, and its line.
func fullLine(t *testing.T) (impl.Event, string) {
	t.Helper()
	e := impl.Event{Id: "tea", Title: "tea, time", Zone: "north", Start: mustTime(t, "2026-03-27T09:00"), Long: 30, Rule: impl.Rule{Freq: impl.FreqDay, Every: 2, Count: 9}}
	e.Outs = []int{mustTime(t, "2026-03-29T09:00"), mustTime(t, "2026-04-04T09:00")}
	e.Overs = []impl.Over{{At: mustTime(t, "2026-03-27T09:00"), Start: mustTime(t, "2026-03-27T10:30"), Long: 90, Title: "long tea"}, {At: mustTime(t, "2026-03-31T09:00"), Start: mustTime(t, "2026-03-30T08:05"), Long: 1}}
	return e, "tea|tea, time|north|2026-03-27T09:00|30|FREQ=DAILY;INTERVAL=2;COUNT=9|-2026-03-29T09:00|-2026-04-04T09:00|+2026-03-27T09:00;2026-03-27T10:30;90;long tea|+2026-03-31T09:00;2026-03-30T08:05;1;"
}

func TestEventPutExamples(t *testing.T) {
	whole, text := fullLine(t)
	at := mustTime(t, "2026-01-01T09:00")
	for _, c := range []struct {
		e    impl.Event
		text string
	}{
		{whole, text}, {impl.Event{Id: "a", Title: "tea", Zone: "utc", Start: 1000000, Long: 30}, "a|tea|utc|0002-11-26T10:40|30|"}, {impl.Event{Id: "abcdefgh", Title: "", Zone: "0", Start: firstBeginning, Long: 20160}, "abcdefgh||0|0001-01-03T00:00|20160|"},
		{impl.Event{Id: "b", Title: " - + ", Zone: "z", Start: lastBeginning, Long: 1, Outs: []int{lastBeginning}}, "b| - + |z|9999-12-15T23:59|1||-9999-12-15T23:59"}, {impl.Event{Id: "b", Title: "-", Zone: "z", Start: at, Long: 1, Overs: []impl.Over{{At: at, Start: at, Long: 1, Title: "+ "}}}, "b|-|z|2026-01-01T09:00|1||+2026-01-01T09:00;2026-01-01T09:00;1;+ "},
		{impl.Event{Id: "b", Title: "a|b", Zone: "z", Start: at, Long: 1}, ""}, {impl.Event{Id: "b", Title: "a;b", Zone: "z", Start: at, Long: 1}, ""}, {impl.Event{Id: "b", Zone: "z", Start: at, Long: 1, Overs: []impl.Over{{At: at, Start: at, Long: 1, Title: "|"}}}, ""}, {impl.Event{Id: "b", Zone: "z", Start: at, Long: 1, Overs: []impl.Over{{At: at, Start: at, Long: 1, Title: "x;"}}}, ""},
		{impl.Event{}, ""}, {impl.Event{Id: "b", Zone: "Z", Start: at, Long: 1}, ""}, {impl.Event{Id: "b", Zone: "", Start: at, Long: 1}, ""}, {impl.Event{Id: "b", Zone: "z", Start: at}, ""}, {impl.Event{Id: "b", Zone: "z", Start: at, Long: 1, Outs: []int{at + 1}}, ""}, {impl.Event{Id: "", Zone: "z", Start: at, Long: 1}, ""}, {impl.Event{Id: "b", Zone: "z", Start: at, Long: 1, Rule: impl.Rule{Freq: 5, Every: 1}}, ""},
	} {
		if got := checkEventPut(t, c.e); got != c.text {
			t.Errorf("%q, not %q", got, c.text)
		}
	}
}

func TestEventGetExamples(t *testing.T) {
	for _, c := range []struct {
		text string
		ok   bool
	}{
		{"", false}, {"a|b", false}, {"|||||", false}, {"a|t|utc|2026-01-01T00:00|5|", true}, {"a|t|utc|2026-01-01T00:00|5", false}, {"a|t|utc|2026-01-01T00:00|5||", false}, {"a|t|utc|2026-01-01T00:00|0|", false}, {"a|t|utc|2026-01-01T00:00|05|", false}, {"a|t|utc|2026-01-01T00:00|+5|", false}, {"a|t|utc|2026-01-01T00:00|20160|", true}, {"a|t|utc|2026-01-01T00:00|20161|", false}, {"a|t|utc|2026-01-01T00:00||", false}, {"a|t|utc|2026-01-01T00:00|99999999999999999999|", false},
		{"a|t|utc|2026-01-01T00:00|5|FREQ=X", false}, {"a|t|utc|2026-01-01T00:00|5|FREQ=DAILY", true}, {"a|t|utc|2026-01-01T00:00|5|FREQ=DAILY;INTERVAL=1", false}, {"a|t|utc|2026-01-01T00:00|5|FREQ=DAILY|", false}, {"a|t|utc|2026-01-01T00:00|5| ", false}, {"a|t|utc|2026-01-01T00:00|5||x", false}, {"a|t|utc|2026-01-01T00:00|5||-2026-01-02T00:00", false}, {"a|t|utc|2026-01-01T00:00|5||-2026-01-01T00:00", true}, {"a|t|utc|2026-01-01T00:00|5||2026-01-01T00:00", false}, {"a|t|utc|2026-01-01T00:00|5||+2026-01-01T00:00", false}, {"a|t|utc|2026-01-01T00:00|5||-", false}, {"a|t|utc|2026-01-01T00:00|5||+", false}, {"a|t|utc|2026-01-01T00:00|5||--2026-01-01T00:00", false},
		{"a|t|utc|2026-01-01T00:00|5||+2026-01-01T00:00;2026-01-02T00:00;7;x", true}, {"a|t|utc|2026-01-01T00:00|5||+2026-01-01T00:00;2026-01-02T00:00;7;", true}, {"a|t|utc|2026-01-01T00:00|5||+2026-01-01T00:00;2026-01-02T00:00;7", false}, {"a|t|utc|2026-01-01T00:00|5||+2026-01-01T00:00;2026-01-02T00:00;7;x;y", false}, {"a|t|utc|2026-01-01T00:00|5||+2026-01-01T00:00;2026-01-02T00:00;7;x|", false}, {"a|t|utc|2026-01-01T00:00|5||+2026-01-01T00:00;2026-01-02T00:00;07;x", false}, {"a|t|utc|2026-01-01T00:00|5||+2026-01-01T00:00;2026-01-02T00:00;0;x", false}, {"a|t|utc|2026-01-01T00:00|5||-2026-01-01T00:00;2026-01-02T00:00;7;x", false},
		{"a|t|utc|2026-01-01T00:00|5|FREQ=DAILY|-2026-01-02T00:00|+2026-01-03T00:00;2026-01-02T00:00;7;x", true}, {"a|t|utc|2026-01-01T00:00|5|FREQ=DAILY|+2026-01-03T00:00;2026-01-02T00:00;7;x|-2026-01-02T00:00", false}, {"a|t|utc|2026-01-01T00:00|5|FREQ=DAILY|-2026-01-03T00:00|-2026-01-02T00:00", false}, {"a|t|utc|2026-01-01T00:00|5|FREQ=DAILY|-2026-01-02T00:00|-2026-01-02T00:00", false}, {"a|t|utc|2026-01-01T00:00|5|FREQ=DAILY|-2026-01-02T00:00|+2026-01-02T00:00;2026-01-02T00:00;7;x", false},
		{"A|t|utc|2026-01-01T00:00|5|", false}, {"|t|utc|2026-01-01T00:00|5|", false}, {"a||utc|2026-01-01T00:00|5|", true}, {"a|t;|utc|2026-01-01T00:00|5|", false}, {"a|t|nowhere|2026-01-01T00:00|5|", true}, {"a|t||2026-01-01T00:00|5|", false}, {"a|t|utc|2026-01-01T24:00|5|", false}, {"a|t|utc|2026-02-30T00:00|5|", false}, {"a|t|utc|0001-01-02T23:59|5|", false}, {" a|t|utc|2026-01-01T00:00|5|", false}, {"a|t|utc|2026-01-01T00:00|5|\n", false}, {"a|t\n|utc|2026-01-01T00:00|5|", false}, {"a|é|utc|2026-01-01T00:00|5|", false}, {"a|0123456789abcdef|utc|2026-01-01T00:00|5|", true}, {"a|0123456789abcdefg|utc|2026-01-01T00:00|5|", false},
	} {
		if ok := checkEventGet(t, c.text); ok != c.ok {
			t.Errorf("%q: %v", c.text, ok)
		}
	}
}

// All texts that differ by a byte from a line with all there is.
func TestEventGetNear(t *testing.T) {
	_, text := fullLine(t)
	oks := 0
	for _, near := range nearTexts(text) {
		if checkEventGet(t, near) {
			oks++
		}
	}
	if oks < 300 {
		t.Error(oks)
	}
}

// Pieces of a line that are gone, there twice, or somewhere else.
func TestEventGetPieces(t *testing.T) {
	_, text := fullLine(t)
	pieces := strings.Split(text, "|")
	check := func(list []string) { checkEventGet(t, strings.Join(list, "|")) }
	for i := range pieces {
		check(slices.Delete(slices.Clone(pieces), i, i+1))
		check(pieces[:i])
		check(pieces[i:])
		for k := range pieces {
			swapped := slices.Clone(pieces)
			swapped[i], swapped[k] = swapped[k], swapped[i]
			check(swapped)
			check(slices.Insert(slices.Clone(pieces), i, pieces[k]))
			check(slices.Replace(slices.Clone(pieces), i, i+1, pieces[k]))
		}
	}
}

// Lines of as many bytes as are read, and one more, none of which an event has; the longest line that one has is read.
func TestEventGetSizes(t *testing.T) {
	e := impl.Event{Id: "abcdefgh", Title: strings.Repeat("x", 16), Zone: "abcdefgh", Start: mustTime(t, "2026-01-01T09:00"), Long: 20160}
	e.Rule = impl.Rule{Freq: impl.FreqMonth, Every: 100, Until: impl.DayMax, Dates: []int{-31, -30, -29, -28, -27, -26, -25, -24}, Months: []int{5, 6, 7, 8, 9, 10, 11, 12}, Places: []int{-366, -365, -364, -363, -362, -361, -360, -359}, Week: 6}
	for day := range 7 {
		e.Rule.Days = append(e.Rule.Days, impl.By{Num: -5, Day: day})
	}
	if text := checkEventPut(t, e); len(text) < 250 {
		t.Errorf("%q", text)
	}
	e.Rule = impl.Rule{Freq: impl.FreqDay, Every: 1}
	for i := range 12 {
		at := e.Start + i*dayMinutes
		if i%2 == 0 {
			e.Outs = append(e.Outs, at)
		} else {
			e.Overs = append(e.Overs, impl.Over{At: at, Start: lastBeginning, Long: 20160, Title: strings.Repeat("~", 16)})
		}
	}
	text := checkEventPut(t, e)
	if len(text) < 500 {
		t.Errorf("%q", text)
	}
	for _, size := range []int{999, 1000, 1001, 1002, 100000} {
		for _, filler := range []string{"x", "|", "|-2026-01-01T09:00", ";", " "} {
			checkEventGet(t, (text + strings.Repeat(filler, size))[:size])
			checkEventGet(t, "a|t|utc|2026-01-01T00:00|5|"+strings.Repeat(filler, size)[:size-27])
			checkEventGet(t, strings.Repeat("0", size-len(text))+text)
		}
	}
}

func TestEventTextOfAllSorts(t *testing.T) {
	written, bare := 0, 0
	someEvents(t, 37, 400, func(rng *rand.Rand, zones []impl.Zone, e impl.Event, times []int) {
		if rng.Intn(8) > 0 {
			e = readable(e)
		}
		text := checkEventPut(t, e)
		if text == "" {
			bare++
			return
		}
		written++
		for range 20 {
			checkEventGet(t, spoilt(rng, text))
		}
	})
	if written < 200 || bare < 10 {
		t.Error(written, bare)
	}
	for _, e := range wildEvents(t) {
		if text := checkEventPut(t, e); (text != "") != (mayPatch(e) && !isParted(e.Title)) {
			t.Fatalf("%s: %q", eventAt(e), text)
		}
	}
	for _, r := range wildRules() {
		e := tea(t)
		e.Rule = r
		checkEventPut(t, e)
	}
	for _, title := range signTitles {
		e := tea(t)
		e.Title = title
		checkEventPut(t, e)
		e.Title, e.Overs = "", []impl.Over{{At: e.Start, Start: e.Start, Long: 1, Title: title}}
		checkEventPut(t, e)
	}
}

// checkSession does lines, and holds all answers against the long way.
func checkSession(t *testing.T, lines ...string) string {
	t.Helper()
	got := impl.Session(lines)
	if want := slowSessionOf(t, lines); got != want {
		t.Fatalf("%q:\n%q, not\n%q", lines[:min(len(lines), 41)], got, want)
	}
	return got
}

// The document's own example.
func TestSessionExample(t *testing.T) {
	lines := []string{
		"put tea|tea|north|2026-03-27T09:00|30|FREQ=DAILY;COUNT=5", "show 2026-03-01T00:00 2026-05-01T00:00", "put pay|pay day|utc|2026-01-30T12:00|60|FREQ=MONTHLY;BYDAY=MO,TU,WE,TH,FR;BYSETPOS=-1", "show 2026-01-01T00:00 2026-05-01T00:00",
		"out tea 2026-03-28T09:00", "over tea 2026-03-29T09:00;2026-03-29T10:30;90;long tea", "show 2026-03-28T00:00 2026-03-30T00:00", "free 2026-03-29T08:00 2026-03-29T12:00 40", "news 0 10", "news 1 1", "gone pay", "news 2 9", "news 9 1", "put x", "what",
	}
	const want = `ok
tea 2026-03-27T09:00 2026-03-27T08:00 2026-03-27T08:30 tea
tea 2026-03-28T09:00 2026-03-28T08:00 2026-03-28T08:30 tea
tea 2026-03-29T09:00 2026-03-29T07:00 2026-03-29T07:30 tea
tea 2026-03-30T09:00 2026-03-30T07:00 2026-03-30T07:30 tea
tea 2026-03-31T09:00 2026-03-31T07:00 2026-03-31T07:30 tea
state 1
ok
pay 2026-01-30T12:00 2026-01-30T12:00 2026-01-30T13:00 pay day
pay 2026-02-27T12:00 2026-02-27T12:00 2026-02-27T13:00 pay day
tea 2026-03-27T09:00 2026-03-27T08:00 2026-03-27T08:30 tea
tea 2026-03-28T09:00 2026-03-28T08:00 2026-03-28T08:30 tea
tea 2026-03-29T09:00 2026-03-29T07:00 2026-03-29T07:30 tea
tea 2026-03-30T09:00 2026-03-30T07:00 2026-03-30T07:30 tea
tea 2026-03-31T09:00 2026-03-31T07:00 2026-03-31T07:30 tea
pay 2026-03-31T12:00 2026-03-31T12:00 2026-03-31T13:00 pay day
pay 2026-04-30T12:00 2026-04-30T12:00 2026-04-30T13:00 pay day
state 2
ok
ok
tea 2026-03-29T09:00 2026-03-29T08:30 2026-03-29T10:00 long tea
state 4
free 2026-03-29T10:00
made pay,tea changed  gone  state 4
made pay changed  gone  state 2 more
ok
made  changed tea gone pay state 5
not known
what
what
`
	if got := checkSession(t, lines...); got != want {
		t.Error(got)
	}
}

// teaLine puts an event, so that the line behind it has something to ask, or to change.
const teaLine = "put tea|tea|north|2026-03-27T09:00|30|FREQ=DAILY;COUNT=5"

// What each line is answered behind teaLine.
func TestSessionLines(t *testing.T) {
	for _, c := range []struct{ line, want string }{
		{"", "what"}, {" ", "what"}, {"put", "what"}, {"put ", "what"}, {"put x", "what"}, {teaLine, "ok"}, {" " + teaLine, "what"}, {teaLine + " ", "what"}, {"put  tea|tea|north|2026-03-27T09:00|30|", "what"}, {"Put tea|tea|north|2026-03-27T09:00|30|", "what"}, {"puttea|tea|north|2026-03-27T09:00|30|", "what"},
		{"put a| two  blanks |utc|2026-03-27T09:00|30|", "ok"}, {"put a|t|utc|2026-03-27T09:00|30||+2026-03-27T09:00;2026-03-27T09:00;5;x ", "ok"}, {"put a|t|south|2026-03-27T09:00|30|", "no 1"}, {"put a|t|nort|2026-03-27T09:00|30|", "no 1"}, {"put a|t;|utc|2026-03-27T09:00|30|", "what"}, {"put a|t|utc|2026-03-27T09:00|0|", "what"},
		{"gone tea", "ok"}, {"gone a", "no 2"}, {"gone TEA", "no 2"}, {"gone", "what"}, {"gone ", "what"}, {"gone  tea", "what"}, {"gone tea ", "what"}, {"gone tea tea", "what"}, {" gone tea", "what"}, {"gone\ttea", "what"}, {"gone te", "no 2"}, {"gone \xff", "no 2"}, {"gone tea\n", "no 2"},
		{"out tea 2026-03-28T09:00", "ok"}, {"out tea 2026-03-27T09:00", "ok"}, {"out tea 2026-03-31T09:00", "ok"}, {"out tea 2026-04-01T09:00", "no"}, {"out tea 2026-03-28T09:01", "no"}, {"out a 2026-03-28T09:00", "no"}, {"out tea x", "no"}, {"out tea 2026-03-28", "no"}, {"out tea 2026-03-28T24:00", "no"}, {"out a x", "no"}, {"out tea", "what"}, {"out", "what"}, {"out tea ", "what"}, {"out  2026-03-28T09:00", "what"}, {"out tea  2026-03-28T09:00", "what"}, {"out tea 2026-03-28T09:00 ", "what"}, {"out tea 2026-03-28T09:00 x", "what"}, {"out 2026-03-28T09:00", "what"},
		{"over tea 2026-03-29T09:00;2026-03-29T10:30;90;long tea", "ok"}, {"over tea 2026-03-29T09:00;2026-03-29T10:30;90;", "ok"}, {"over tea 2026-03-29T09:00;2026-03-29T10:30;90; ", "ok"}, {"over tea 2026-03-29T09:00;2026-03-29T10:30;90;a;b", "ok"}, {"over tea 2026-03-29T09:00;2026-03-29T10:30;90;;|", "ok"}, {"over tea 2026-03-29T09:00;2026-03-29T10:30;90;0123456789abcdef", "ok"}, {"over tea 2026-03-29T09:00;2026-03-29T10:30;90;0123456789abcdefg", "no"}, {"over tea 2026-03-29T09:00;2026-03-29T10:30;90;\n", "no"},
		{"over tea 2026-03-29T09:00;2026-03-29T10:30;20160;x", "ok"}, {"over tea 2026-03-29T09:00;2026-03-29T10:30;20161;x", "no"}, {"over tea 2026-03-29T09:00;2026-03-29T10:30;0;x", "no"}, {"over tea 2026-03-29T09:00;2026-03-29T10:30;-5;x", "no"}, {"over tea 2026-03-29T09:00;2026-03-29T10:30;+5;x", "no"}, {"over tea 2026-03-29T09:00;2026-03-29T10:30;005;x", "ok"}, {"over tea 2026-03-29T09:00;2026-03-29T10:30;000000005;x", "ok"}, {"over tea 2026-03-29T09:00;2026-03-29T10:30;0000000005;x", "no"}, {"over tea 2026-03-29T09:00;2026-03-29T10:30;;x", "no"}, {"over tea 2026-03-29T09:00;2026-03-29T10:30; 5;x", "no"}, {"over tea 2026-03-29T09:00;2026-03-29T10:30;x;x", "no"},
		{"over tea 2026-03-29T09:01;2026-03-29T10:30;90;x", "no"}, {"over a 2026-03-29T09:00;2026-03-29T10:30;90;x", "no"}, {"over tea 2026-03-29T09:00;0001-01-02T23:59;90;x", "no"}, {"over tea x;2026-03-29T10:30;90;x", "no"}, {"over tea 2026-03-29T09:00;x;90;x", "no"}, {"over tea ;;;", "no"}, {"over tea 2026-03-29T09:00 ;2026-03-29T10:30;90;x", "no"}, {"over tea 2026-03-29T09:00; 2026-03-29T10:30;90;x", "no"},
		{"over tea 2026-03-29T09:00;2026-03-29T10:30;90", "what"}, {"over tea x", "what"}, {"over tea", "what"}, {"over tea ", "what"}, {"over", "what"}, {"over ", "what"}, {"over  2026-03-29T09:00;2026-03-29T10:30;90;x", "what"}, {"over tea  2026-03-29T09:00;2026-03-29T10:30;90;x", "no"}, {"over 2026-03-29T09:00;2026-03-29T10:30;90;x", "what"},
		{"show 2026-03-28T00:00 2026-03-29T00:00", "tea 2026-03-28T09:00 2026-03-28T08:00 2026-03-28T08:30 tea\nstate 1"}, {"show 2026-03-28T08:30 2026-03-29T00:00", "state 1"}, {"show 2026-03-29T00:00 2026-03-28T00:00", "state 1"}, {"show 2026-03-28T08:20 2026-03-28T08:10", "tea 2026-03-28T09:00 2026-03-28T08:00 2026-03-28T08:30 tea\nstate 1"}, {"show x 2026-03-29T00:00", "what"}, {"show 2026-03-28T00:00 x", "what"}, {"show 2026-03-28T00:00", "what"}, {"show", "what"}, {"show 2026-03-28T00:00 2026-03-29T00:00 ", "what"}, {"show 2026-03-28T00:00  2026-03-29T00:00", "what"}, {"show 2026-03-28T00:00 2026-03-29T00:00 5", "what"},
		{"free 2026-03-28T08:00 2026-03-28T12:00 40", "free 2026-03-28T08:30"}, {"free 2026-03-28T07:00 2026-03-28T12:00 60", "free 2026-03-28T07:00"}, {"free 2026-03-28T07:00 2026-03-28T12:00 61", "free 2026-03-28T08:30"}, {"free 2026-03-28T07:00 2026-03-28T12:00 210", "free 2026-03-28T08:30"}, {"free 2026-03-28T07:00 2026-03-28T12:00 211", "free "}, {"free 2026-03-28T12:00 2026-03-28T07:00 1", "free "}, {"free 2026-03-28T07:00 2026-03-28T07:00 1", "free "}, {"free 2026-03-28T07:00 2026-03-28T12:00 0", "free "}, {"free 2026-03-28T07:00 2026-03-28T12:00 -1", "free "}, {"free 2026-03-28T07:00 2026-03-28T12:00 x", "free "},
		{"free 2026-03-28T07:00 2026-03-28T12:00 000000061", "free 2026-03-28T08:30"}, {"free 2026-03-28T07:00 2026-03-28T12:00 0000000061", "free "}, {"free 2026-03-28T07:00 2026-03-28T12:00 +61", "free "}, {"free 2026-04-28T07:00 2026-05-28T12:00 20160", "free 2026-04-28T07:00"}, {"free 2026-04-28T07:00 2026-05-28T12:00 20161", "free "}, {"free x 2026-03-28T12:00 1", "what"}, {"free 2026-03-28T07:00 x 1", "what"}, {"free 2026-03-28T07:00 2026-03-28T12:00", "what"}, {"free 2026-03-28T07:00 2026-03-28T12:00 ", "what"}, {"free 2026-03-28T07:00 2026-03-28T12:00  1", "what"}, {"free 2026-03-28T07:00 2026-03-28T12:00 1 1", "what"}, {"free", "what"},
		{"news 0 10", "made tea changed  gone  state 1"}, {"news 1 10", "made  changed  gone  state 1"}, {"news 2 10", "not known"}, {"news 0 1", "made tea changed  gone  state 1"}, {"news 0 0", "not known"}, {"news -1 1", "not known"}, {"news 0 -1", "not known"}, {"news +0 1", "not known"}, {"news 0 +1", "not known"}, {"news x 1", "not known"}, {"news 0 x", "not known"}, {"news 000000000 999999999", "made tea changed  gone  state 1"}, {"news 0000000000 1", "not known"}, {"news 0 1000000000", "not known"}, {"news 0 0000000001", "not known"}, {"news 00 01", "made tea changed  gone  state 1"}, {"news 0 99999999999999999999", "not known"}, {"news 0 4294967297", "not known"}, {"news 0 1e1", "not known"}, {"news 0 1.", "not known"}, {"news 0 １", "not known"},
		{"news 0", "what"}, {"news", "what"}, {"news 0 ", "what"}, {"news  0 1", "what"}, {"news 0  1", "what"}, {"news 0 1 ", "what"}, {"news 0 1 2", "what"}, {"what", "what"}, {"state", "what"}, {"NEWS 0 1", "what"}, {"new 0 1", "what"}, {"news0 1", "what"}, {"\n", "what"}, {"\xff", "what"}, {"news\n0 1", "what"}, {"ok", "what"},
	} {
		if got := checkSession(t, teaLine, c.line); got != "ok\n"+c.want+"\n" {
			t.Errorf("%q: %q", c.line, got)
		}
	}
}

// Each line of each word with words gone, twice, empty, or others.
func TestSessionWords(t *testing.T) {
	others := []string{"", "x", "tea", "put", "0", "-1", "2026-03-28T09:00", ";", "a|t|utc|2026-03-27T09:00|30|"}
	for _, line := range []string{teaLine, "gone tea", "out tea 2026-03-28T09:00", "over tea 2026-03-29T09:00;2026-03-29T10:30;90;long tea", "show 2026-03-28T00:00 2026-03-29T00:00", "free 2026-03-28T08:00 2026-03-28T12:00 40", "news 0 1"} {
		changedWords(line, others, func(changed string) {
			checkSession(t, teaLine, changed, "show 2026-03-01T00:00 2026-05-01T00:00", "news 0 9")
		})
		for i, near := range nearTexts(line) {
			if i%7 == 0 || len(line) < 12 {
				checkSession(t, teaLine, near, "news 0 9")
			}
		}
	}
}

// The zones of a session turn as the document says, and there are no others.
func TestSessionZones(t *testing.T) {
	for _, c := range []struct{ start, zone, want string }{
		{"2026-03-28T09:00", "north", "2026-03-28T08:00"}, {"2026-03-29T01:59", "north", "2026-03-29T00:59"}, {"2026-03-29T02:30", "north", "2026-03-29T01:30"}, {"2026-03-29T03:00", "north", "2026-03-29T01:00"}, {"2026-07-01T09:00", "north", "2026-07-01T07:00"}, {"2026-10-25T02:30", "north", "2026-10-25T00:30"}, {"2026-10-25T03:00", "north", "2026-10-25T02:00"}, {"2027-07-01T09:00", "north", "2027-07-01T08:00"}, {"2025-07-01T09:00", "north", "2025-07-01T08:00"}, {"2026-07-01T09:00", "utc", "2026-07-01T09:00"},
	} {
		got := checkSession(t, "put a|t|"+c.zone+"|"+c.start+"|1|", "show 0001-01-01T00:00 9999-12-31T23:59")
		if lines := strings.Split(got, "\n"); lines[0] != "ok" || !strings.HasPrefix(lines[1], "a "+c.start+" "+c.want+" ") {
			t.Errorf("%s in %s: %q", c.start, c.zone, got)
		}
	}
	for _, zone := range []string{"south", "north1", "nort", "ut", "a", "0"} {
		if got := checkSession(t, "put a|t|"+zone+"|2026-03-28T09:00|1|"); got != "no 1\n" {
			t.Errorf("%s: %q", zone, got)
		}
	}
}

// As many lines as are answered, and more: those behind them do nothing.
func TestSessionSizes(t *testing.T) {
	if got := checkSession(t); got != "" {
		t.Errorf("%q", got)
	}
	for _, size := range []int{1, 39, 40, 41, 42, 1000} {
		lines := slices.Repeat([]string{"news 0 9"}, size)
		if got := checkSession(t, lines...); strings.Count(got, "\n") != min(size, 40) || got != strings.Repeat("made  changed  gone  state 0\n", min(size, 40)) {
			t.Errorf("%d: %q", size, got)
		}
		lines[size-1] = teaLine
		if got := checkSession(t, lines...); strings.HasSuffix(got, "ok\n") != (size <= 40) {
			t.Errorf("%d: %q", size, got)
		}
	}
	if got := impl.Session(make([]string, 1000000)); got != strings.Repeat("what\n", 40) {
		t.Errorf("%q", got)
	}
}

// A store that is full, and all whose notes are asked for.
func TestSessionFull(t *testing.T) {
	var lines []string
	for i := range 13 {
		lines = append(lines, fmt.Sprintf("put n%02d|t|utc|2026-03-27T09:00|30|", i))
	}
	lines = append(lines, "news 0 99", "news 3 2", "gone n03", lines[12], "out n04 2026-03-27T09:00", "out n04 2026-03-27T09:00", "show 2026-03-27T00:00 2026-03-28T00:00")
	got := strings.Split(checkSession(t, lines...), "\n")
	if got[11] != "ok" || got[12] != "no 3" || !strings.HasSuffix(got[13], "n10,n11 changed  gone  state 12") || got[14] != "made n03,n04 changed  gone  state 5 more" || got[15] != "ok" || got[16] != "ok" || got[17] != "ok" || got[18] != "no" || got[len(got)-2] != "state 15" || len(got) != 19+11+2 {
		t.Errorf("%q", got)
	}
}

// Sessions of all sorts, with lines that do something, and such that are spoilt.
func TestSessionsOfAllSorts(t *testing.T) {
	rng := rand.New(rand.NewSource(39))
	said := map[string]int{}
	for range 500 {
		var lines []string
		for range rng.Intn(44) {
			line := someLine(rng)
			if rng.Intn(12) == 0 {
				line = spoilt(rng, line)
			}
			lines = append(lines, line)
		}
		got := checkSession(t, lines...)
		for _, line := range strings.Split(got, "\n") {
			word, _, _ := strings.Cut(line, " ")
			said[word]++
		}
		if again := impl.Session(lines); again != got {
			t.Fatalf("%q: %q, and then %q", lines, got, again)
		}
	}
	for _, word := range []string{"ok", "no", "what", "state", "free", "made", "not", "tea"} {
		if said[word] < 200 {
			t.Error(said)
		}
	}
}
