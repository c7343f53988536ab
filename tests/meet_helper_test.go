package tests

import (
	"fmt"
	"math/rand"
	"slices"
	"strings"
	"testing"

	"loop.example/ephemeris/impl"
)

// Meetings done the long way: guests by name, in no order.

const (
	guestsMost = 5
	seqLast    = 1000
)

func sameMeet(a impl.Meet, b impl.Meet) bool {
	return sameEvent(a.Event, b.Event) && a.Host == b.Host && slices.Equal(a.Guests, b.Guests) && a.Seq == b.Seq && a.Off == b.Off
}

func isNoMeet(m impl.Meet) bool {
	return sameMeet(m, impl.Meet{})
}

func copyMeet(m impl.Meet) impl.Meet {
	m.Event, m.Guests = copyEvent(m.Event), slices.Clone(m.Guests)
	return m
}

func meetAt(m impl.Meet) string {
	return fmt.Sprintf("%s by %q, guests %v, seq %d, off %v", eventAt(m.Event), m.Host, m.Guests[:min(len(m.Guests), 9)], m.Seq, m.Off)
}

func sameLetter(a impl.Letter, b impl.Letter) bool {
	return sameEvent(a.Event, b.Event) && a.Host == b.Host && a.Seq == b.Seq && a.Off == b.Off
}

// letterOf is a letter of a meeting, part by part.
func letterOf(m impl.Meet) impl.Letter {
	return impl.Letter{Event: copyEvent(m.Event), Host: m.Host, Seq: m.Seq, Off: m.Off}
}

func slowMeetOk(zones []impl.Zone, m impl.Meet) bool {
	if !slowNameOk(m.Host) || m.Seq < 0 || m.Seq > seqLast || len(m.Guests) > guestsMost {
		return false
	}
	for i, g := range m.Guests {
		if !slowNameOk(g.Name) || g.Name == m.Host || g.Said < 0 || g.Said > 3 || g.Seq < 0 || g.Seq > m.Seq {
			return false
		}
		if i > 0 && m.Guests[i-1].Name >= g.Name {
			return false
		}
	}
	return slowEventOk(zones, m.Event)
}

// guestsOf are guests written as name, what they said, and to which state, with blanks between.
func guestsOf(text string) []impl.Guest {
	var guests []impl.Guest
	for _, word := range strings.Fields(text) {
		var g impl.Guest
		parts := strings.Split(word, "/")
		g.Name, g.Said, g.Seq = parts[0], number(parts[1]), number(parts[2])
		guests = append(guests, g)
	}
	return guests
}

// party is a meeting of which guests are kept by name.
type party struct {
	zones  []impl.Zone
	event  impl.Event
	host   string
	seq    int
	off    bool
	guests map[string][2]int
}

func partyOf(zones []impl.Zone, m impl.Meet) *party {
	p := &party{zones: zones, event: copyEvent(m.Event), host: m.Host, seq: m.Seq, off: m.Off, guests: map[string][2]int{}}
	for _, g := range m.Guests {
		p.guests[g.Name] = [2]int{g.Said, g.Seq}
	}
	return p
}

func (p *party) meet() impl.Meet {
	m := impl.Meet{Event: p.event, Host: p.host, Seq: p.seq, Off: p.off}
	for name, said := range p.guests {
		m.Guests = append(m.Guests, impl.Guest{Name: name, Said: said[0], Seq: said[1]})
	}
	slices.SortFunc(m.Guests, func(a, b impl.Guest) int { return strings.Compare(a.Name, b.Name) })
	return m
}

// timeOf is all of an event but what it is called.
func timeOf(e impl.Event) impl.Event {
	e = copyEvent(e)
	e.Id, e.Title = "", ""
	for i := range e.Overs {
		e.Overs[i].Title = ""
	}
	return e
}

func (p *party) change(e impl.Event) bool {
	if p.off || p.seq >= seqLast || e.Id != p.event.Id || !slowEventOk(p.zones, e) {
		return false
	}
	p.seq++
	if !sameEvent(timeOf(e), timeOf(p.event)) {
		for name := range p.guests {
			p.guests[name] = [2]int{0, p.seq}
		}
	}
	p.event = copyEvent(e)
	return true
}

func (p *party) ask(name string, more bool) bool {
	_, there := p.guests[name]
	switch {
	case p.off || there == more:
		return false
	case !more:
		delete(p.guests, name)
		return true
	case !slowNameOk(name) || name == p.host || len(p.guests) >= guestsMost:
		return false
	}
	p.guests[name] = [2]int{0, p.seq}
	return true
}

func (p *party) say(name string, said int, seq int) bool {
	was, there := p.guests[name]
	if p.off || !there || said < 1 || said > 3 || seq < was[1] || seq > p.seq {
		return false
	}
	p.guests[name] = [2]int{said, seq}
	return true
}

func (p *party) call() bool {
	if p.off || p.seq >= seqLast {
		return false
	}
	p.off = true
	p.seq++
	return true
}

// slowTake asks first what speaks against the letter.
func slowTake(have impl.Letter, l impl.Letter) impl.Letter {
	switch {
	case have.Host == "":
		return l
	case have.Host != l.Host, have.Event.Id != l.Event.Id, l.Seq <= have.Seq:
		return have
	}
	return l
}

// teaMeet is a meeting that is ok, at some state, to which guests said all there is to say.
func teaMeet(t *testing.T) ([]impl.Zone, impl.Meet) {
	t.Helper()
	e, _ := teaCalendar(t)
	return teaZones(t), impl.Meet{Event: e, Host: "host", Guests: guestsOf("ann/1/3 bob/2/4 cid/3/0 dan/0/2"), Seq: 4}
}

// someMeet is a meeting that is ok of an event that is, often one at which something ends.
func someMeet(rng *rand.Rand, e impl.Event) impl.Meet {
	names := []string{"a", "ab", "abcdefgh", "b", "0", "z", "h1", "tea"}
	rng.Shuffle(len(names), func(i, k int) { names[i], names[k] = names[k], names[i] })
	m := impl.Meet{Event: e, Host: names[7], Seq: []int{0, 1, 2, 7, 999, 1000}[rng.Intn(6)], Off: rng.Intn(5) == 0}
	names = names[:rng.Intn(6)]
	slices.Sort(names)
	for _, name := range names {
		m.Guests = append(m.Guests, impl.Guest{Name: name, Said: rng.Intn(4), Seq: max(0, m.Seq-rng.Intn(4))})
	}
	return m
}
