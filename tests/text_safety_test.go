package tests

import (
	"math/rand"
	"slices"
	"strings"
	"testing"

	"loop.example/ephemeris/impl"
)

// wildTexts are texts of all sorts, and of any length.
func wildTexts(t *testing.T) []string {
	_, text := teaCalendar(t)
	list := []string{"", " ", "\r", "\n", "\r\n", "\\", ";", ":", "=", "A", "A:", "A;B=:", "\x00", "\xff", "é", "BEGIN:VEVENT", "BEGIN:VEVENT\r\n", "END:VEVENT\r\n", "UID:a\r\nBEGIN:VEVENT\r\n", "DTSTART:\r\n", "BEGIN:VEVENT\r\nDTSTART;TZID=a:\r\n", "BEGIN:VEVENT\r\nDURATION:\r\n", "BEGIN:VEVENT\r\nDURATION:PT99999999999999999999M\r\n", "BEGIN:VEVENT\r\nRRULE:\r\nEXDATE:\r\n", text}
	for _, part := range list[1:24] {
		for _, size := range []int{2, 3, 40, 41, 79, 80, 300, 301, 400, 401, 600, 601, 4000, 4001, 100000} {
			list = append(list, strings.Repeat(part, size/len(part)), strings.Repeat(part, size/len(part))+"\r\n")
		}
	}
	rng := rand.New(rand.NewSource(7))
	for range 500 {
		list = append(list, someBytes(rng, rng.Intn(700), ""), someBytes(rng, rng.Intn(90), " \r\n"), someBytes(rng, rng.Intn(30), "A;=:"))
	}
	return list
}

// A panic ends the test; all else is as done the long way.
func TestLinesNeverPanic(t *testing.T) {
	for _, text := range wildTexts(t) {
		checkEsc(t, text)
		checkFold(t, text)
		checkUnfold(t, text)
		checkPropGet(t, text)
		checkIcalGet(t, text)
		for _, other := range []string{"", "A", ";", text} {
			checkProp(t, impl.Prop{Name: text, Value: other})
			checkProp(t, impl.Prop{Name: "A", Value: text, Params: []impl.Param{{Name: "A", Value: other}}})
			checkProp(t, impl.Prop{Name: "A", Params: []impl.Param{{Name: text, Value: other}, {Name: other, Value: text}}})
		}
		e, _ := teaCalendar(t)
		e.Title = text
		checkIcal(t, e)
		e.Title, e.Overs[0].Title = "", text
		checkIcal(t, e)
		e.Id, e.Zone, e.Overs = text, text, nil
		checkIcal(t, e)
	}
	for _, size := range []int{7, 1000, 1000000} {
		e := tea(t)
		e.Outs = make([]int, size)
		checkIcal(t, e)
		e.Outs, e.Overs = nil, make([]impl.Over, size)
		checkIcal(t, e)
	}
}

func TestLinesAreNew(t *testing.T) {
	_, text := teaCalendar(t)
	for _, text := range []string{"\r\n", "a\r\n", text, strings.Repeat("a\r\n", 1000)} {
		one, ok := impl.Unfold(text)
		other, _ := impl.Unfold(text)
		want := slices.Clone(other)
		if !ok || len(want) == 0 || !slices.Equal(one, want) {
			t.Fatalf("%q: %q", text, one)
		}
		checkApart(t, one, other)
		one = one[:cap(one)]
		for i := range one {
			one[i] = "x"
		}
		if again, _ := impl.Unfold(text); !slices.Equal(other, want) || !slices.Equal(again, want) {
			t.Errorf("%q: shared, or kept", text)
		}
	}
}

func TestPropsAreNew(t *testing.T) {
	for count := range 5 {
		whole := []impl.Param{{Name: "A", Value: "1"}, {Name: "B", Value: "2"}, {Name: "C", Value: "3"}, {Name: "D", Value: "4"}, {Name: "e", Value: ";"}, {Name: "f", Value: "="}}
		before := slices.Clone(whole)
		p := impl.Prop{Name: "N", Params: whole[:count], Value: "v"}
		line := "N" + strings.Join([]string{"", ";A=1", ";B=2", ";C=3"}[:min(count, 3)+1], "") + ":v"
		ok := impl.PropOk(p)
		if ok != (count <= 3) || (impl.PropPut(p) == line) != ok || !slices.Equal(whole, before) {
			t.Fatalf("%d params: %v %q", count, ok, impl.PropPut(p))
		}
		if !ok {
			continue
		}
		one, _ := impl.PropGet(line)
		other, _ := impl.PropGet(line)
		checkApart(t, one, p, other)
		room := one.Params[:cap(one.Params)]
		for i := range room {
			room[i] = impl.Param{Name: "x"}
		}
		if again, _ := impl.PropGet(line); !sameProp(other, p) || !sameProp(again, p) || !slices.Equal(whole, before) {
			t.Errorf("%d params: shared, or kept", count)
		}
	}
	if !impl.PropOk(impl.Prop{Name: "A", Params: []impl.Param{}}) || impl.PropPut(impl.Prop{Name: "A", Params: []impl.Param{}}) != "A:" {
		t.Error("the empty list is not as none")
	}
}

func TestIcalIsNew(t *testing.T) {
	_, e, all := roomyEvent(t)
	before, beforeEvent := all.copied(), copyEvent(e)
	text := impl.IcalPut(e)
	if text == "" || text != slowIcalPut(beforeEvent) || !all.same(before) || !sameEvent(e, beforeEvent) {
		t.Fatalf("%q", text)
	}
	one, ok := impl.IcalGet(text)
	other, _ := impl.IcalGet(text)
	if !ok || !sameEvent(one, e) || len(one.Outs)*len(one.Overs)*len(one.Rule.Days)*len(one.Rule.Dates)*len(one.Rule.Months)*len(one.Rule.Places) == 0 {
		t.Fatal(eventAt(one))
	}
	checkApart(t, one, e, other)
	scribbleAll(t, one, func() bool { return all.same(before) && sameEvent(e, beforeEvent) && sameEvent(other, beforeEvent) })
	if again, _ := impl.IcalGet(text); !sameEvent(again, beforeEvent) {
		t.Error("kept")
	}
}

// The empty lists and none at all are the same.
func TestIcalEmptyIsNil(t *testing.T) {
	none := tea(t)
	empty := copyEvent(none)
	empty.Outs, empty.Overs = []int{}, []impl.Over{}
	empty.Rule.Days, empty.Rule.Dates, empty.Rule.Months, empty.Rule.Places = []impl.By{}, []int{}, []int{}, []int{}
	if text := checkIcal(t, empty); text == "" || text != checkIcal(t, none) {
		t.Errorf("%q", text)
	}
	none.Rule, empty.Rule.Freq, empty.Rule.Every = impl.Rule{}, 0, 0
	if text := checkIcal(t, empty); text == "" || text != checkIcal(t, none) || strings.Contains(text, "RRULE") {
		t.Errorf("%q", text)
	}
}
