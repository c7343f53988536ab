package tests

import (
	"fmt"
	"math/rand"
	"regexp"
	"slices"
	"strconv"
	"strings"

	"loop.example/ephemeris/impl"
)

// What is found, and patches, done the long way: texts byte by byte, fields by forms.

const patchesMost = 16

// sameSign holds two bytes against each other, and only of two letters what tells their size is left out.
func sameSign(a byte, b byte) bool {
	const letters = "abcdefghijklmnopqrstuvwxyz"
	const great = "ABCDEFGHIJKLMNOPQRSTUVWXYZ"
	i, k := strings.IndexByte(letters, a), strings.IndexByte(letters, b)
	if i < 0 {
		i = strings.IndexByte(great, a)
	}
	if k < 0 {
		k = strings.IndexByte(great, b)
	}
	return a == b || i >= 0 && i == k
}

func slowTextIn(text string, part string) bool {
	for at := 0; at+len(part) <= len(text); at++ {
		same := true
		for i := range len(part) {
			same = same && sameSign(text[at+i], part[i])
		}
		if same {
			return true
		}
	}
	return false
}

func slowHasText(e impl.Event, text string) bool {
	for _, o := range e.Overs {
		if slowTextIn(o.Title, text) {
			return true
		}
	}
	return slowTextIn(e.Title, text)
}

// slowFind is Find of zones and events that are ok, given all times at which each event comes.
func slowFind(zones []impl.Zone, events []impl.Event, times [][]int, f impl.Filter) []impl.Found {
	if !isTime(f.From) || !isTime(f.To) {
		return nil
	}
	var list []impl.Found
	for i, e := range events {
		if hits := slowHits(zones, e, times[i], f.From, f.To); len(hits) > 0 && slowHasText(e, f.Text) {
			list = append(list, impl.Found{Id: e.Id, At: hits[0].From})
		}
	}
	return inOrder(list)
}

func inOrder(list []impl.Found) []impl.Found {
	slices.SortFunc(list, func(a, b impl.Found) int {
		if a.At != b.At {
			return map[bool]int{true: -1, false: 1}[a.At < b.At]
		}
		return strings.Compare(a.Id, b.Id)
	})
	return list
}

func slowFoundOk(list []impl.Found) bool {
	for i, f := range list {
		if !slowNameOk(f.Id) {
			return false
		}
		for _, other := range list[:i] {
			if other.Id == f.Id || other.At > f.At || other.At == f.At && other.Id > f.Id {
				return false
			}
		}
	}
	return len(list) <= 12
}

// foundOf is what is found, written as names and times, with blanks between.
func foundOf(text string) []impl.Found {
	var list []impl.Found
	words := strings.Fields(text)
	for i := 0; i+1 < len(words); i += 2 {
		list = append(list, impl.Found{Id: words[i], At: number(words[i+1])})
	}
	return list
}

func sameTurned(a impl.Turned, b impl.Turned) bool {
	return slices.Equal(a.Gone, b.Gone) && slices.Equal(a.Come, b.Come) && slices.Equal(a.At, b.At)
}

func slowFindNews(old []impl.Found, fresh []impl.Found) impl.Turned {
	var t impl.Turned
	if !slowFoundOk(old) || !slowFoundOk(fresh) {
		return t
	}
	was, is := map[string]int{}, map[string]int{}
	for _, f := range old {
		was[f.Id] = f.At
	}
	for _, f := range fresh {
		is[f.Id] = f.At
	}
	for _, f := range old {
		if at, there := is[f.Id]; !there || at != f.At {
			t.Gone = append(t.Gone, f.Id)
		}
	}
	for i, f := range fresh {
		if at, there := was[f.Id]; !there || at != f.At {
			t.Come, t.At = append(t.Come, f), append(t.At, i)
		}
	}
	return t
}

func slowFindDo(old []impl.Found, t impl.Turned) ([]impl.Found, bool) {
	if !slowFoundOk(old) {
		return nil, false
	}
	if len(t.Gone) > 12 || len(t.Come) > 12 || len(t.Come) != len(t.At) {
		return old, false
	}
	var list []impl.Found
	gone := 0
	for _, f := range old {
		if slices.Contains(t.Gone, f.Id) {
			gone++
		} else {
			list = append(list, f)
		}
	}
	if gone != len(t.Gone) {
		return old, false
	}
	for i, f := range t.Come {
		at := t.At[i]
		if at < 0 || at > len(list) {
			return old, false
		}
		list = append(append(slices.Clone(list[:at]), f), list[at:]...)
	}
	if !slowFoundOk(list) {
		return old, false
	}
	return list, true
}

// someFound is what is found that is ok, of few names and times.
func someFound(rng *rand.Rand, most int) []impl.Found {
	var list []impl.Found
	for _, id := range someIds {
		if rng.Intn(2) == 0 && len(list) < most {
			list = append(list, impl.Found{Id: id, At: rng.Intn(4)})
		}
	}
	return inOrder(list)
}

func isParted(title string) bool {
	return strings.Contains(title, "|") || strings.Contains(title, ";")
}

// mayPatch is an event that would be ok, if its zone were there, and of which no Over's title has a sign that parts.
func mayPatch(e impl.Event) bool {
	return couldBe(e) && !slices.ContainsFunc(e.Overs, func(o impl.Over) bool { return isParted(o.Title) })
}

func slowTimeText(at int) string {
	if !isTime(at) {
		return ""
	}
	d := goDate(at / dayMinutes)
	return fmt.Sprintf("%04d-%02d-%02dT%02d:%02d", d.Year, d.Month, d.Day, at%dayMinutes/60, at%60)
}

// slowFields is all fields of an event as texts, in order.
func slowFields(e impl.Event) []impl.Patch {
	outs, overs := "", ""
	for i, at := range e.Outs {
		outs += []string{"", ","}[min(i, 1)] + slowTimeText(at)
	}
	for _, o := range e.Overs {
		overs += fmt.Sprintf("%s;%s;%d;%s|", slowTimeText(o.At), slowTimeText(o.Start), o.Long, o.Title)
	}
	return []impl.Patch{{Field: "id", Text: e.Id}, {Field: "title", Text: e.Title}, {Field: "zone", Text: e.Zone}, {Field: "start", Text: slowTimeText(e.Start)}, {Field: "long", Text: fmt.Sprint(e.Long)}, {Field: "rule", Text: slowRulePut(e.Rule)}, {Field: "outs", Text: outs}, {Field: "overs", Text: overs}}
}

func slowPatchOf(a impl.Event, b impl.Event) []impl.Patch {
	if !mayPatch(a) || !mayPatch(b) {
		return nil
	}
	var list []impl.Patch
	have := slowFields(a)
	for i, p := range slowFields(b) {
		if p != have[i] {
			list = append(list, p)
		}
	}
	return list
}

var (
	numberForm = regexp.MustCompile(`^(?:0|-?[1-9][0-9]*)$`)
	overForms  = regexp.MustCompile(`(?s)^([^;|]*);([^;|]*);([^;|]*);([^|]*)\|`)
)

func slowNumber(text string) (int, bool) {
	n, err := strconv.ParseInt(text, 10, 64)
	return int(n), err == nil && numberForm.MatchString(text)
}

func slowOvers(text string) ([]impl.Over, bool) {
	var list []impl.Over
	for text != "" {
		m := overForms.FindStringSubmatch(text)
		if m == nil {
			return nil, false
		}
		o, ok := slowOver(m[1:])
		if !ok {
			return nil, false
		}
		list = append(list, o)
		text = text[len(m[0]):]
	}
	return list, true
}

func slowOver(m []string) (impl.Over, bool) {
	at, is := goTimeGet(m[0])
	start, ok := goTimeGet(m[1])
	long, fine := slowNumber(m[2])
	return impl.Over{At: at, Start: start, Long: long, Title: m[3]}, is && ok && fine
}

// slowSet sets a field to a text; false if that is none.
func slowSet(e impl.Event, p impl.Patch) (impl.Event, bool) {
	ok := true
	switch p.Field {
	case "id":
		e.Id = p.Text
	case "title":
		e.Title = p.Text
	case "zone":
		e.Zone = p.Text
	case "start":
		e.Start, ok = goTimeGet(p.Text)
	case "long":
		e.Long, ok = slowNumber(p.Text)
	case "rule":
		e.Rule = impl.Rule{}
		if p.Text != "" {
			e.Rule, ok = slowRuleGet(p.Text)
		}
	case "outs":
		e.Outs = nil
		for _, piece := range strings.Split(p.Text, ",") {
			at, is := goTimeGet(piece)
			ok = ok && (is || p.Text == "")
			if is {
				e.Outs = append(e.Outs, at)
			}
		}
	case "overs":
		e.Overs, ok = slowOvers(p.Text)
	default:
		ok = false
	}
	return e, ok
}

func slowPatchDo(e impl.Event, list []impl.Patch) (impl.Event, bool) {
	if !mayPatch(e) {
		return impl.Event{}, false
	}
	next, ok := e, len(list) <= patchesMost
	for _, p := range list[:min(len(list), patchesMost)] {
		if ok {
			next, ok = slowSet(next, p)
		}
	}
	if !ok || !mayPatch(next) {
		return e, false
	}
	return next, true
}

// slowPatchBoth asks of each patch all behind it.
func slowPatchBoth(a []impl.Patch, b []impl.Patch) []impl.Patch {
	all := append(slices.Clone(a), b...)
	var list []impl.Patch
	for i, p := range all {
		if !slices.ContainsFunc(all[i+1:], func(o impl.Patch) bool { return o.Field == p.Field }) {
			list = append(list, p)
		}
	}
	return list
}

// readable is an event without signs that part in its titles.
func readable(e impl.Event) impl.Event {
	e = copyEvent(e)
	mend := strings.NewReplacer("|", "!", ";", ":")
	e.Title = mend.Replace(e.Title)
	for i := range e.Overs {
		e.Overs[i].Title = mend.Replace(e.Overs[i].Title)
	}
	return e
}

// patchesOf are patches written as field=text, with bars between.
func patchesOf(text string) []impl.Patch {
	var list []impl.Patch
	for _, piece := range strings.Split(text, "|") {
		field, rest, is := strings.Cut(piece, "=")
		if is {
			list = append(list, impl.Patch{Field: field, Text: rest})
		}
	}
	return list
}
