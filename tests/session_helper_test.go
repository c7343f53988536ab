package tests

import (
	"fmt"
	"math/rand"
	"regexp"
	"slices"
	"strings"
	"testing"

	"loop.example/ephemeris/impl"
)

// Sessions done the long way: lines by their forms, events by the form of the whole.

const (
	linesMost     = 40
	eventTextMost = 1000
)

const timeTold = `([0-9]{4}-[0-9]{2}-[0-9]{2}T[0-9]{2}:[0-9]{2})`

var (
	lineForm     = regexp.MustCompile(`^([a-z0-9]{1,8})\|([^|;]*)\|([a-z0-9]{1,8})\|` + timeTold + `\|([1-9][0-9]{0,4})\|([^|]*)((?:\|-` + timeTold + `)*)((?:\|\+` + timeTold + `;` + timeTold + `;[1-9][0-9]{0,4};[^|;]*)*)$`)
	lineOutForm  = regexp.MustCompile(`\|-` + timeTold)
	lineOverForm = regexp.MustCompile(`\|\+` + timeTold + `;` + timeTold + `;([1-9][0-9]{0,4});([^|;]*)`)
)

func slowEventPut(e impl.Event) string {
	if !mayPatch(e) || isParted(e.Title) {
		return ""
	}
	text := fmt.Sprintf("%s|%s|%s|%s|%d|%s", e.Id, e.Title, e.Zone, slowTimeText(e.Start), e.Long, slowRulePut(e.Rule))
	for _, at := range e.Outs {
		text += "|-" + slowTimeText(at)
	}
	for _, o := range e.Overs {
		text += fmt.Sprintf("|+%s;%s;%d;%s", slowTimeText(o.At), slowTimeText(o.Start), o.Long, o.Title)
	}
	return text
}

// slowEventGet asks for the form of the whole, and then for each time.
func slowEventGet(text string) (impl.Event, bool) {
	m := lineForm.FindStringSubmatch(text)
	if m == nil || len(text) > eventTextMost {
		return impl.Event{}, false
	}
	start, ok := goTimeGet(m[4])
	e := impl.Event{Id: m[1], Title: m[2], Zone: m[3], Start: start, Long: number(m[5])}
	if m[6] != "" {
		var is bool
		e.Rule, is = slowRuleGet(m[6])
		ok = ok && is
	}
	for _, out := range lineOutForm.FindAllStringSubmatch(m[7], -1) {
		at, is := goTimeGet(out[1])
		e.Outs, ok = append(e.Outs, at), ok && is
	}
	for _, over := range lineOverForm.FindAllStringSubmatch(m[9], -1) {
		o, is := slowOver(over[1:])
		e.Overs, ok = append(e.Overs, o), ok && is
	}
	if !ok || !couldBe(e) {
		return impl.Event{}, false
	}
	return e, true
}

func slowHitsPut(list []impl.Hit) string {
	text := ""
	for _, h := range list {
		text += fmt.Sprintf("%s %s %s %s %s\n", h.Id, slowTimeText(h.At), slowTimeText(h.From), slowTimeText(h.To), h.Title)
	}
	return text
}

var (
	putForm  = regexp.MustCompile(`(?s)^put (.*)$`)
	goneForm = regexp.MustCompile(`(?s)^gone ([^ ]+)$`)
	outOfId  = regexp.MustCompile(`(?s)^out ([^ ]+) ([^ ]+)$`)
	overOfId = regexp.MustCompile(`(?s)^over ([^ ]+) ([^;]*);([^;]*);([^;]*);(.*)$`)
	showForm = regexp.MustCompile(`(?s)^show ([^ ]+) ([^ ]+)$`)
	freeForm = regexp.MustCompile(`(?s)^free ([^ ]+) ([^ ]+) ([^ ]+)$`)
	newsForm = regexp.MustCompile(`(?s)^news ([^ ]+) ([^ ]+)$`)
	nineForm = regexp.MustCompile(`^[0-9]{1,9}$`)
)

// slowLineNumber is a number of nine figures at most, with or without zeros ahead.
func slowLineNumber(text string) int {
	if !nineForm.MatchString(text) {
		return -1
	}
	return number(text)
}

// slowSession does lines to a ledger, as the document's words say of each form.
type slowSession struct {
	l *ledger
}

func slowSessionOf(t *testing.T, lines []string) string {
	t.Helper()
	s := slowSession{ledgerOf(impl.Store{Zones: append([]impl.Zone{north(t)}, named("utc")...)})}
	text := ""
	for i, line := range lines {
		if i < linesMost {
			text += s.answer(line) + "\n"
		}
	}
	return text
}

func (s slowSession) answer(line string) string {
	if m := putForm.FindStringSubmatch(line); m != nil {
		if e, ok := slowEventGet(m[1]); ok {
			return coded(s.l.put(e, -1))
		}
	}
	if m := goneForm.FindStringSubmatch(line); m != nil {
		return coded(s.l.gone(m[1], -1))
	}
	if m := outOfId.FindStringSubmatch(line); m != nil {
		at, is := goTimeGet(m[2])
		next, ok := impl.EventOut(s.l.zones, s.l.events[m[1]], at)
		return s.changed(next, ok && is)
	}
	if m := overOfId.FindStringSubmatch(line); m != nil {
		at, is := goTimeGet(m[2])
		start, ok := goTimeGet(m[3])
		next, done := impl.EventOver(s.l.zones, s.l.events[m[1]], impl.Over{At: at, Start: start, Long: slowLineNumber(m[4]), Title: m[5]})
		return s.changed(next, is && ok && done)
	}
	return s.asked(line)
}

func coded(code int) string {
	if code == 0 {
		return "ok"
	}
	return fmt.Sprintf("no %d", code)
}

func (s slowSession) changed(e impl.Event, ok bool) string {
	if !ok {
		return "no"
	}
	return coded(s.l.put(e, -1))
}

func (s slowSession) asked(line string) string {
	store := s.l.store()
	if m := showForm.FindStringSubmatch(line); m != nil {
		from, is := goTimeGet(m[1])
		to, ok := goTimeGet(m[2])
		if is && ok {
			return slowHitsPut(impl.StoreHits(store, from, to)) + fmt.Sprintf("state %d", s.l.state())
		}
	}
	if m := freeForm.FindStringSubmatch(line); m != nil {
		from, is := goTimeGet(m[1])
		to, ok := goTimeGet(m[2])
		if is && ok {
			return "free " + slowTimeText(slowSlot(impl.BusyOf(store.Zones, store.Events, from, to), from, to, slowLineNumber(m[3])))
		}
	}
	if m := newsForm.FindStringSubmatch(line); m != nil {
		news, ok := slowNews(store, slowLineNumber(m[1]), slowLineNumber(m[2]))
		if !ok {
			return "not known"
		}
		return fmt.Sprintf("made %s changed %s gone %s state %d%s", strings.Join(news.Made, ","), strings.Join(news.Changed, ","), strings.Join(news.Gone, ","), news.State, map[bool]string{true: " more"}[news.More])
	}
	return "what"
}

// someLine is a line of a session, most often one that does something.
func someLine(rng *rand.Rand) string {
	id := []string{"tea", "pay", "a", "b", "c"}[rng.Intn(5)]
	day := func() string { return fmt.Sprintf("2026-%02d-%02d", 3+rng.Intn(2)*7, 20+rng.Intn(11)) }
	hour := func() string { return fmt.Sprintf("T%02d:%02d", rng.Intn(24), rng.Intn(2)*30) }
	switch rng.Intn(12) {
	case 0, 1, 2:
		rule := []string{"", "FREQ=DAILY", "FREQ=DAILY;COUNT=5", "FREQ=WEEKLY;BYDAY=MO,FR", "FREQ=X"}[rng.Intn(5)]
		return fmt.Sprintf("put %s|%s|%s|%s|%d|%s", id, []string{"tea", "", "pay day", " x "}[rng.Intn(4)], []string{"north", "utc", "south"}[min(rng.Intn(7)/3, 2)], day()+"T09:00", rng.Intn(600), rule)
	case 3:
		return "gone " + id
	case 4:
		return "out " + id + " " + day() + "T09:00"
	case 5, 6:
		return fmt.Sprintf("over %s %sT09:00;%s%s;%d;%s", id, day(), day(), hour(), rng.Intn(900), []string{"", "late", "a b", "x;y|z", "0123456789abcdefg"}[rng.Intn(5)])
	case 7, 8:
		return "show " + day() + hour() + " " + day() + hour()
	case 9:
		return "free " + day() + hour() + " " + day() + hour() + fmt.Sprintf(" %d", rng.Intn(3000))
	case 10:
		return fmt.Sprintf("news %d %d", rng.Intn(9), rng.Intn(9))
	}
	return []string{"", "what", "put x", "gone", "out tea", "over tea x", "show x y", "free a b c", "news 1"}[rng.Intn(9)]
}

// spoilt is a line with a byte more, fewer, or other, often a blank.
func spoilt(rng *rand.Rand, line string) string {
	at := rng.Intn(len(line) + 1)
	sign := []string{" ", " ", ";", "|", "-", "0", string([]byte{byte(rng.Intn(256))})}[rng.Intn(7)]
	switch rng.Intn(3) {
	case 0:
		return line[:at] + sign + line[at:]
	case 1:
		return line[:at] + line[min(at+1, len(line)):]
	}
	return line[:at] + sign + line[min(at+1, len(line)):]
}

// changedWords calls for a line with each of its words gone, twice, empty, or another one.
func changedWords(line string, others []string, each func(line string)) {
	words := strings.Split(line, " ")
	for i := range words {
		each(strings.Join(slices.Delete(slices.Clone(words), i, i+1), " "))
		each(strings.Join(slices.Insert(slices.Clone(words), i, words[i]), " "))
		for _, other := range others {
			each(strings.Join(slices.Replace(slices.Clone(words), i, i+1, other), " "))
			each(strings.Join(slices.Insert(slices.Clone(words), i, other), " "))
		}
	}
	each(line + " ")
	each(" " + line)
	each(line + "\n")
	each(strings.ToUpper(line))
}
