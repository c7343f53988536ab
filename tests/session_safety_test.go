package tests

import (
	"math/rand"
	"strings"
	"testing"

	"loop.example/ephemeris/impl"
)

// The document's names, as they must stay.
var (
	_ func([]string) string           = impl.Session
	_ func([]impl.Hit) string         = impl.HitsPut
	_ func(impl.Event) string         = impl.EventPut
	_ func(string) (impl.Event, bool) = impl.EventGet
)

func TestSessionsNeverPanic(t *testing.T) {
	texts := append(wildTexts(t), strings.Repeat("|", 1000), strings.Repeat("|", 1001), "a|||||"+strings.Repeat("|+;;;", 150), "a|||||"+strings.Repeat("|-", 400), strings.Repeat("put ", 100000))
	rng := rand.New(rand.NewSource(111))
	for range 500 {
		texts = append(texts, someBytes(rng, rng.Intn(60), "|-+;0:T "), someBytes(rng, rng.Intn(40), " putgoneshwfrv0;|"))
	}
	for _, text := range texts {
		checkEventGet(t, text)
		for _, word := range []string{"put ", "gone ", "out ", "out tea ", "over ", "over tea ", "show ", "show 2026-03-28T00:00 ", "free ", "free 2026-03-28T00:00 2026-03-29T00:00 ", "news ", "news 0 "} {
			checkSession(t, teaLine, word+text, text)
		}
		e := tea(t)
		e.Title = text
		checkEventPut(t, e)
		e.Id, e.Zone = text, text
		checkEventPut(t, e)
		impl.HitsPut([]impl.Hit{{Id: text, Title: text}})
	}
	for _, a := range wildInts {
		for _, b := range wildInts {
			list := []impl.Hit{{At: a, From: b, To: a}}
			if got := impl.HitsPut(list); got != slowHitsPut(list) {
				t.Fatalf("%d %d: %q", a, b, got)
			}
		}
	}
	for _, size := range []int{7, 1000, 1000000} {
		e := tea(t)
		e.Outs = make([]int, size)
		checkEventPut(t, e)
		e.Outs, e.Overs = nil, make([]impl.Over, size)
		checkEventPut(t, e)
	}
}

func TestLineEventIsNew(t *testing.T) {
	_, e, _ := roomyEvent(t)
	before := wholeText(e)
	text := impl.EventPut(e)
	if text == "" || wholeText(e) != before {
		t.Fatalf("%q", text)
	}
	one, ok := impl.EventGet(text)
	other, _ := impl.EventGet(text)
	if !ok || !sameEvent(one, e) || len(one.Outs)*len(one.Overs)*len(one.Rule.Days)*len(one.Rule.Dates)*len(one.Rule.Months)*len(one.Rule.Places) == 0 {
		t.Fatal(eventAt(one))
	}
	checkApart(t, one, e, other)
	scribbleAny(one)
	if again, _ := impl.EventGet(text); !sameEvent(other, e) || !sameEvent(again, e) {
		t.Error("shared, or kept")
	}
	hits := append(impl.EventHits(teaZones(t), tea(t), 0, impl.TimeMax), impl.Hit{Id: "behind"})
	before = wholeText(hits)
	if impl.HitsPut(hits[:5]) != slowHitsPut(hits[:5]) || wholeText(hits) != before {
		t.Error("hits")
	}
	lines := []string{teaLine, "gone tea", "news 0 9", "behind"}
	if impl.Session(lines[:3]) != "ok\nok\nmade  changed  gone  state 2\n" || lines[0] != teaLine || lines[3] != "behind" {
		t.Error("lines")
	}
}

// The empty lists and none at all are the same.
func TestSessionEmptyIsNil(t *testing.T) {
	none := tea(t)
	empty := copyEvent(none)
	empty.Outs, empty.Overs = []int{}, []impl.Over{}
	empty.Rule.Days, empty.Rule.Dates, empty.Rule.Months, empty.Rule.Places = []impl.By{}, []int{}, []int{}, []int{}
	if text := checkEventPut(t, empty); text == "" || text != checkEventPut(t, none) {
		t.Errorf("%q", text)
	}
	none.Rule, empty.Rule.Freq, empty.Rule.Every = impl.Rule{}, 0, 0
	if text := checkEventPut(t, empty); text == "" || text != checkEventPut(t, none) || !strings.HasSuffix(text, "|30|") {
		t.Errorf("%q", text)
	}
	if impl.Session(nil)+impl.Session([]string{})+impl.HitsPut(nil)+impl.HitsPut([]impl.Hit{}) != "" {
		t.Error("not empty")
	}
}
