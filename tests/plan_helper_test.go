package tests

import (
	"fmt"
	"math/rand"
	"slices"

	"loop.example/ephemeris/impl"
)

// Plans done the long way: all minutes one by one, or piece by piece, and all hits with all alarms.

const (
	planMost  = 144000
	aheadMost = 40320
)

func slowBoth(a []impl.Span, b []impl.Span) []impl.Span {
	if !slowSpansOk(a) || !slowSpansOk(b) {
		return nil
	}
	return pieced(edgesOf(a, edgesOf(b)...), func(minute int) bool { return someHas(a, minute) && someHas(b, minute) })
}

func slowLess(a []impl.Span, b []impl.Span) []impl.Span {
	if !slowSpansOk(a) || !slowSpansOk(b) {
		return nil
	}
	return pieced(edgesOf(a, edgesOf(b)...), func(minute int) bool { return someHas(a, minute) && !someHas(b, minute) })
}

func slowMayPlan(from int, to int) bool {
	return isTime(from) && isTime(to) && from <= to && to-from <= planMost
}

func slowHoursOk(zones []impl.Zone, h impl.Hours) bool {
	for i, day := range h.Days {
		if day < 0 || day > 6 || i > 0 && h.Days[i-1] >= day {
			return false
		}
	}
	_, there := slowZone(zones, h.Zone)
	return there && slowZonesOk(zones) && h.From >= 0 && h.From <= 1439 && h.To > h.From && h.To <= 1440
}

// slowHours asks for all days from some ahead of a span to some behind it.
func slowHours(zones []impl.Zone, h impl.Hours, from int, to int) []impl.Span {
	if !slowHoursOk(zones, h) || !slowMayPlan(from, to) {
		return nil
	}
	z, _ := slowZone(zones, h.Zone)
	var all []impl.Span
	for day := from/dayMinutes - 4; day <= to/dayMinutes+4; day++ {
		if day < 2 || day > impl.DayMax-2 || !slices.Contains(h.Days, goWeekDay(dayZero.AddDate(0, 0, day))) {
			continue
		}
		first, last := day*dayMinutes+h.From, day*dayMinutes+h.To
		s := impl.Span{From: slowWorld(z, first, slowTimes(z, first)), To: slowWorld(z, last, slowTimes(z, last))}
		if isTime(s.From) && s.To > s.From {
			all = append(all, s)
		}
	}
	return pieced(edgesOf(all, from, to), func(minute int) bool { return minute >= from && minute < to && someHas(all, minute) })
}

// flags says of each minute of a span whether some spans have it.
func flags(list []impl.Span, from int, to int) []bool {
	has := make([]bool, max(to-from, 0))
	for _, s := range list {
		for minute := max(s.From, from); minute < min(s.To, to); minute++ {
			has[minute-from] = true
		}
	}
	return has
}

// person is hours and events, with all times at which each of these comes.
type person struct {
	hours  impl.Hours
	events []impl.Event
	times  [][]int
}

// slowCan counts how many can at each minute; all that it is given is ok.
func slowCan(zones []impl.Zone, people []person, from int, to int) []int {
	can := make([]int, max(to-from, 0))
	for _, p := range people {
		works := flags(slowHours(zones, p.hours, from, to), from, to)
		busy := flags(slowBusyOf(zones, p.events, p.times, from, to), from, to)
		for i := range can {
			if works[i] && !busy[i] {
				can[i]++
			}
		}
	}
	return can
}

// slowRun is the first minute from which on so many can for so long; -1 if there is none.
func slowRun(can []int, all int, long int) int {
	run := 0
	for i, n := range can {
		run++
		if n < all {
			run = 0
		}
		if run == long {
			return i + 1 - long
		}
	}
	return -1
}

func hoursOf(people []person) []impl.Hours {
	var list []impl.Hours
	for _, p := range people {
		list = append(list, p.hours)
	}
	return list
}

func eventsOf(people []person) [][]impl.Event {
	var list [][]impl.Event
	for _, p := range people {
		list = append(list, p.events)
	}
	return list
}

// slowSlotList goes from minute to minute, and begins again behind each slot.
func slowSlotList(list []impl.Span, from int, to int, long int, most int) []impl.Span {
	if most < 0 || most > 40 || long < 1 || long > 20160 || !slowSpansOk(list) || !isTime(from) || !isTime(to) {
		return nil
	}
	var slots []impl.Span
	run := 0
	for i, busy := range flags(list, from, to) {
		run++
		if busy {
			run = 0
		}
		if run == long && len(slots) < most {
			slots = append(slots, impl.Span{From: from + i + 1 - long, To: from + i + 1})
			run = 0
		}
	}
	return slots
}

func slowAheadOk(ahead []int) bool {
	return len(ahead) <= 4 && !slices.ContainsFunc(ahead, func(n int) bool { return n < 0 || n > aheadMost })
}

// slowRings is Rings of an event that is ok, given all times at which it comes.
func slowRings(zones []impl.Zone, e impl.Event, times []int, ahead []int, from int, to int) []impl.Ring {
	if !slowAheadOk(ahead) || !slowMayPlan(from, to) {
		return nil
	}
	var rings []impl.Ring
	for _, h := range firstHits(slowHits(zones, e, times, from, min(to+aheadMost, impl.TimeMax))) {
		for _, n := range ahead {
			r := impl.Ring{At: h.From - n, Hit: h.From}
			if r.At >= from && r.At <= to-1 && !slices.Contains(rings, r) {
				rings = append(rings, r)
			}
		}
	}
	slices.SortFunc(rings, func(a, b impl.Ring) int {
		if a.At != b.At {
			return a.At - b.At
		}
		return a.Hit - b.Hit
	})
	return rings
}

// bitSpans is spans of the minutes whose bits are set, as few as can be.
func bitSpans(bits int) []impl.Span {
	var list []impl.Span
	for minute := range 20 {
		if bits>>minute&1 == 0 {
			continue
		}
		if n := len(list); n > 0 && list[n-1].To == minute {
			list[n-1].To++
		} else {
			list = append(list, impl.Span{From: minute, To: minute + 1})
		}
	}
	return list
}

var allWeek = []int{0, 1, 2, 3, 4, 5, 6}

// someHours are hours that are ok of one of some zones, often from the first minute, or to midnight.
func someHours(rng *rand.Rand, zones []impl.Zone) impl.Hours {
	h := impl.Hours{Zone: zones[rng.Intn(len(zones))].Name}
	switch rng.Intn(4) {
	case 0:
		h.From, h.To = 0, 1440
	case 1:
		h.From, h.To = rng.Intn(1440), 1440
	case 2:
		h.From, h.To = 0, 1+rng.Intn(1440)
	case 3:
		h.From = rng.Intn(1440)
		h.To = h.From + 1 + rng.Intn(1440-h.From)
	}
	for _, day := range allWeek {
		if rng.Intn(4) > 0 {
			h.Days = append(h.Days, day)
		}
	}
	return h
}

// somePlan is a span that may be asked around a time, at most so long.
func somePlan(rng *rand.Rand, around int, most int) (int, int) {
	from := min(max(around+rng.Intn(12000)-6000, 0), impl.TimeMax)
	return from, min(from+rng.Intn(most+1), impl.TimeMax)
}

func hoursAt(h impl.Hours) string {
	return fmt.Sprintf("%d to %d on %v in %s", h.From, h.To, h.Days[:min(len(h.Days), 9)], h.Zone)
}
