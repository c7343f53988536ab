package tests

import (
	"fmt"
	"math/rand"
	"slices"
	"strings"
	"testing"

	"loop.example/ephemeris/impl"
)

// Stores done the long way: all that ever happened is kept, and done again from the beginning on.

const (
	itemsMost = 12
	notesMost = 40
	stateLast = 1000000
)

func sameZones(a []impl.Zone, b []impl.Zone) bool {
	return slices.EqualFunc(a, b, func(x, y impl.Zone) bool {
		return x.Name == y.Name && x.Shift == y.Shift && slices.Equal(x.Turns, y.Turns)
	})
}

func sameStore(a impl.Store, b impl.Store) bool {
	return sameZones(a.Zones, b.Zones) && slices.EqualFunc(a.Events, b.Events, sameEvent) && a.State == b.State && slices.Equal(a.Notes, b.Notes)
}

func isNoStore(s impl.Store) bool {
	return sameStore(s, impl.Store{})
}

func copyStore(s impl.Store) impl.Store {
	s.Zones, s.Events, s.Notes = slices.Clone(s.Zones), slices.Clone(s.Events), slices.Clone(s.Notes)
	for i := range s.Zones {
		s.Zones[i].Turns = slices.Clone(s.Zones[i].Turns)
	}
	for i := range s.Events {
		s.Events[i] = copyEvent(s.Events[i])
	}
	return s
}

func sameNews(a impl.News, b impl.News) bool {
	return slices.Equal(a.Made, b.Made) && slices.Equal(a.Changed, b.Changed) && slices.Equal(a.Gone, b.Gone) && a.State == b.State && a.More == b.More
}

func isNoNews(n impl.News) bool {
	return sameNews(n, impl.News{})
}

func storeAt(s impl.Store) string {
	return fmt.Sprintf("%d zones, %v, state %d, notes %s", len(s.Zones), idsOf(s), s.State, notesText(s.Notes))
}

func notesText(notes []impl.Note) string {
	var b strings.Builder
	for _, n := range notes[:min(len(notes), 50)] {
		fmt.Fprintf(&b, "%d%s ", n.Kind, n.Id)
	}
	return b.String()
}

// notesOf are notes written as a figure for the kind and the name, with blanks between.
func notesOf(text string) []impl.Note {
	var notes []impl.Note
	for _, word := range strings.Fields(text) {
		notes = append(notes, impl.Note{Kind: int(word[0] - '0'), Id: word[1:]})
	}
	return notes
}

func idsOf(s impl.Store) []string {
	var ids []string
	for _, e := range s.Events {
		ids = append(ids, e.Id)
	}
	return ids
}

// plain is an event that is ok in utc, of a minute, and comes once.
func plain(id string) impl.Event {
	return impl.Event{Id: id, Zone: "utc", Start: 1000000, Long: 1}
}

// storeOf is a store in utc of plain events with these names, blanks between.
func storeOf(ids string, state int, notes string) impl.Store {
	s := impl.Store{Zones: named("utc"), State: state, Notes: notesOf(notes)}
	for _, id := range strings.Fields(ids) {
		s.Events = append(s.Events, plain(id))
	}
	return s
}

// kindsOf is what happened to one name, in order.
func kindsOf(notes []impl.Note, id string) []int {
	var kinds []int
	for _, n := range notes {
		if n.Id == id {
			kinds = append(kinds, n.Kind)
		}
	}
	return kinds
}

// fitting says whether what happened to one name can have: what is made, or changed, is there, and what is gone is not.
func fitting(kinds []int, there bool) bool {
	for i, kind := range kinds {
		if kind < 1 || kind > 3 {
			return false
		}
		if i > 0 && (kinds[i-1] == 3) != (kind == 1) {
			return false
		}
	}
	return len(kinds) == 0 || (kinds[len(kinds)-1] != 3) == there
}

// namesAfter is the names behind the first so many notes of a store whose notes are fitting.
func namesAfter(s impl.Store, count int) []string {
	names := map[string]bool{}
	for _, id := range idsOf(s) {
		if len(kindsOf(s.Notes, id)) == 0 {
			names[id] = true
		}
	}
	for _, n := range s.Notes {
		if kindsOf(s.Notes, n.Id)[0] != 1 {
			names[n.Id] = true
		}
	}
	for _, n := range s.Notes[:count] {
		names[n.Id] = n.Kind != 3
	}
	var list []string
	for id, is := range names {
		if is {
			list = append(list, id)
		}
	}
	slices.Sort(list)
	return list
}

func slowStoreOk(s impl.Store) bool {
	if !slowZonesOk(s.Zones) || len(s.Events) > itemsMost || len(s.Notes) > notesMost || s.State < len(s.Notes) || s.State > stateLast {
		return false
	}
	ids := idsOf(s)
	for i, e := range s.Events {
		if !slowEventOk(s.Zones, e) || i > 0 && ids[i-1] >= ids[i] {
			return false
		}
	}
	for _, n := range s.Notes {
		if !slowNameOk(n.Id) || !fitting(kindsOf(s.Notes, n.Id), slices.Contains(ids, n.Id)) {
			return false
		}
	}
	for count := range len(s.Notes) + 1 {
		if len(namesAfter(s, count)) > itemsMost {
			return false
		}
	}
	return len(s.Notes) != s.State || len(namesAfter(s, 0)) == 0
}

// slowNews is StoreNews of a store that is ok: which names are there ahead of some notes, and behind them.
func slowNews(s impl.Store, since int, most int) (impl.News, bool) {
	forgotten := s.State - len(s.Notes)
	if since < forgotten || since > s.State || most < 1 {
		return impl.News{}, false
	}
	skip := since - forgotten
	count := len(s.Notes) - skip
	news := impl.News{State: s.State}
	if most < count {
		count = most
		news.State, news.More = since+most, true
	}
	before, after := namesAfter(s, skip), namesAfter(s, skip+count)
	var touched []string
	for _, n := range s.Notes[skip : skip+count] {
		touched = append(touched, n.Id)
	}
	slices.Sort(touched)
	for _, id := range slices.Compact(touched) {
		switch was, is := slices.Contains(before, id), slices.Contains(after, id); {
		case was && is:
			news.Changed = append(news.Changed, id)
		case was:
			news.Gone = append(news.Gone, id)
		case is:
			news.Made = append(news.Made, id)
		}
	}
	return news, true
}

// ledger keeps all that ever happened to a store.
type ledger struct {
	zones  []impl.Zone
	events map[string]impl.Event
	all    []impl.Note
	ahead  int
}

// ledgerOf begins with a store that is ok, as if nothing were known of what was ahead of its notes.
func ledgerOf(s impl.Store) *ledger {
	l := &ledger{zones: s.Zones, events: map[string]impl.Event{}, all: slices.Clone(s.Notes), ahead: s.State - len(s.Notes)}
	for _, e := range s.Events {
		l.events[e.Id] = copyEvent(e)
	}
	return l
}

func (l *ledger) state() int {
	return l.ahead + len(l.all)
}

func (l *ledger) store() impl.Store {
	s := impl.Store{Zones: l.zones, State: l.state(), Notes: l.all[max(0, len(l.all)-notesMost):]}
	for _, e := range l.events {
		s.Events = append(s.Events, e)
	}
	slices.SortFunc(s.Events, func(a, b impl.Event) int { return strings.Compare(a.Id, b.Id) })
	return s
}

func (l *ledger) put(e impl.Event, at int) int {
	_, there := l.events[e.Id]
	switch {
	case !slowEventOk(l.zones, e):
		return 1
	case at >= 0 && at != l.state():
		return 4
	case l.state() == stateLast || !there && len(l.events) == itemsMost:
		return 3
	}
	l.events[e.Id] = copyEvent(e)
	kind := 1
	if there {
		kind = 2
	}
	l.all = append(l.all, impl.Note{Kind: kind, Id: e.Id})
	return 0
}

func (l *ledger) gone(id string, at int) int {
	_, there := l.events[id]
	switch {
	case !there:
		return 2
	case at >= 0 && at != l.state():
		return 4
	case l.state() == stateLast:
		return 3
	}
	delete(l.events, id)
	l.all = append(l.all, impl.Note{Kind: 3, Id: id})
	return 0
}

// mustPut and mustGone change a store, whatever its state.
func mustPut(t *testing.T, s impl.Store, e impl.Event) impl.Store {
	t.Helper()
	next, code := impl.StorePut(s, e, -1)
	if code != 0 {
		t.Fatalf("%s: code %d of %s", storeAt(s), code, eventAt(e))
	}
	return next
}

func mustGone(t *testing.T, s impl.Store, id string) impl.Store {
	t.Helper()
	next, code := impl.StoreGone(s, id, -1)
	if code != 0 {
		t.Fatalf("%s: code %d of %s", storeAt(s), code, id)
	}
	return next
}

// done is a store in utc of plain events, behind these notes from the beginning on.
func done(t *testing.T, notes string) impl.Store {
	t.Helper()
	s, ok := impl.StoreNew(named("utc"))
	for _, n := range notesOf(notes) {
		if n.Kind == 3 {
			s = mustGone(t, s, n.Id)
		} else {
			s = mustPut(t, s, plain(n.Id))
		}
	}
	if !ok || s.State != len(notesOf(notes)) {
		t.Fatal(storeAt(s))
	}
	return s
}

// someIds are names of which some are the beginning of others.
var someIds = []string{"b", "a", "ab", "0", "9z", "zz", "abcdefgh", "abcdefg", "z", "10", "9", "m", "n", "ba", "aa", "x1"}

// someItems are events that are ok of zones, one or two of each name, and all times at which each comes.
func someItems(rng *rand.Rand, zones []impl.Zone, around int, ids []string) ([]impl.Event, [][]int) {
	var events []impl.Event
	var times [][]int
	for _, id := range ids {
		for range 1 + rng.Intn(2) {
			e := impl.Event{Id: id, Title: someTitle(rng), Start: toBeginning(around + rng.Intn(40000) - 20000), Long: someLong(rng)}
			if rng.Intn(3) == 0 {
				e.Start = toBeginning(around)
			}
			e, comes := someEventIn(rng, zones, e)
			events, times = append(events, e), append(times, comes)
		}
	}
	return events, times
}
