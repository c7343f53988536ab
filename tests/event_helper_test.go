package tests

import (
	"fmt"
	"math/rand"
	"slices"
	"testing"

	"loop.example/ephemeris/impl"
)

// Events done the long way: all times at which one comes, one by one, and then what becomes of each.

const (
	firstBeginning = 2880
	lastBeginning  = impl.TimeMax - 2880 - 20160
)

func slowTitleOk(title string) bool {
	for _, b := range []byte(title) {
		if b < 32 || b > 126 {
			return false
		}
	}
	return len(title) <= 16
}

func slowPartOk(start int, long int, title string) bool {
	return start >= firstBeginning && start <= lastBeginning && long >= 1 && long <= 20160 && slowTitleOk(title)
}

func slowZonesOk(zones []impl.Zone) bool {
	for i, z := range zones {
		if !slowZoneOk(z) || i > 0 && zones[i-1].Name >= z.Name {
			return false
		}
	}
	return len(zones) <= 6
}

func slowZone(zones []impl.Zone, name string) (impl.Zone, bool) {
	for _, z := range zones {
		if z.Name == name {
			return z, true
		}
	}
	return impl.Zone{}, false
}

func hasNoRule(e impl.Event) bool {
	return sameRule(e.Rule, impl.Rule{})
}

// slowEventTimes is all times at which an event comes whose Start is a beginning, and whose rule is none, or ok.
func slowEventTimes(e impl.Event) []int {
	if hasNoRule(e) {
		return []int{e.Start}
	}
	var times []int
	start := e.Start / dayMinutes
	for _, day := range slowComes(e.Rule, start, min(start+sight, impl.DayMax)) {
		times = append(times, day*dayMinutes+e.Start%dayMinutes)
	}
	return times
}

func slowEventOk(zones []impl.Zone, e impl.Event) bool {
	if _, there := slowZone(zones, e.Zone); !there || !slowZonesOk(zones) {
		return false
	}
	if !slowNameOk(e.Id) || !slowPartOk(e.Start, e.Long, e.Title) || !hasNoRule(e) && !slowRuleOk(e.Rule) {
		return false
	}
	if len(e.Outs) > 6 || len(e.Overs) > 6 {
		return false
	}
	if len(e.Outs)+len(e.Overs) == 0 {
		return true
	}
	times := slowEventTimes(e)
	for i, at := range e.Outs {
		if !slices.Contains(times, at) || slices.Max(e.Outs[:i+1]) != at || slices.Contains(e.Outs[:i], at) {
			return false
		}
	}
	for i, o := range e.Overs {
		if !slices.Contains(times, o.At) || slices.Contains(e.Outs, o.At) || !slowPartOk(o.Start, o.Long, o.Title) {
			return false
		}
		if i > 0 && e.Overs[i-1].At >= o.At {
			return false
		}
	}
	return true
}

// slowTimes asks each shift of a zone whether the clock has it then.
func slowTimes(z impl.Zone, local int) []int {
	var times []int
	for i := range len(z.Turns) + 1 {
		shift := z.Shift
		if i > 0 {
			shift = z.Turns[i-1].Shift
		}
		if at := local - shift; isTime(at) && slowShift(z, at) == shift {
			times = append(times, at)
		}
	}
	slices.Sort(times)
	return slices.Compact(times)
}

// slowHits is EventHits of an event that is ok, given all times at which it comes, but for how many are told.
func slowHits(zones []impl.Zone, e impl.Event, times []int, from int, to int) []impl.Hit {
	z, _ := slowZone(zones, e.Zone)
	var hits []impl.Hit
	for _, at := range times {
		if slices.Contains(e.Outs, at) {
			continue
		}
		o := impl.Over{At: at, Start: at, Long: e.Long, Title: e.Title}
		for _, other := range e.Overs {
			if other.At == at {
				o = other
			}
		}
		begin := slowWorld(z, o.Start, slowTimes(z, o.Start))
		if begin < to && begin+o.Long > from {
			hits = append(hits, impl.Hit{Id: e.Id, At: at, From: begin, To: begin + o.Long, Title: o.Title})
		}
	}
	slices.SortFunc(hits, func(a, b impl.Hit) int {
		if a.From != b.From {
			return a.From - b.From
		}
		return a.At - b.At
	})
	return hits
}

func firstHits(hits []impl.Hit) []impl.Hit {
	return hits[:min(len(hits), 200)]
}

func sameEvent(a impl.Event, b impl.Event) bool {
	return a.Id == b.Id && a.Title == b.Title && a.Zone == b.Zone && a.Start == b.Start && a.Long == b.Long &&
		sameRule(a.Rule, b.Rule) && slices.Equal(a.Outs, b.Outs) && slices.Equal(a.Overs, b.Overs)
}

func isNothing(e impl.Event) bool {
	return sameEvent(e, impl.Event{})
}

func copyEvent(e impl.Event) impl.Event {
	e.Rule, e.Outs, e.Overs = copyRule(e.Rule), slices.Clone(e.Outs), slices.Clone(e.Overs)
	return e
}

func eventAt(e impl.Event) string {
	return fmt.Sprintf("%q %q in %s, %s (%d), %d long, %s, outs %v, overs %+v", e.Id, e.Title, e.Zone, impl.TimeText(e.Start), e.Start, e.Long, slowRulePut(e.Rule), e.Outs, e.Overs)
}

func someTitle(rng *rand.Rand) string {
	title := make([]byte, rng.Intn(17))
	for i := range title {
		title[i] = byte(32 + rng.Intn(95))
	}
	return string(title)
}

func someLong(rng *rand.Rand) int {
	switch rng.Intn(4) {
	case 0:
		return 1 + rng.Intn(3)
	case 1:
		return 20160 - rng.Intn(3)
	}
	return 1 + rng.Intn(3000)
}

func toBeginning(at int) int {
	return min(max(at, firstBeginning), lastBeginning)
}

// someBeginning is a beginning, often the first or the last, or near them.
func someBeginning(rng *rand.Rand) int {
	switch rng.Intn(8) {
	case 0:
		return firstBeginning + rng.Intn(3)*rng.Intn(1500)
	case 1:
		return lastBeginning - rng.Intn(3)*rng.Intn(20000)
	case 2:
		return toBeginning(someStart(rng)*dayMinutes + rng.Intn(dayMinutes))
	}
	return 739000*dayMinutes + rng.Intn(1000*dayMinutes)
}

// someClocks are zones that are ok, most of which turn within some weeks from a time on.
func someClocks(rng *rand.Rand, around int) []impl.Zone {
	var zones []impl.Zone
	for i := range 1 + rng.Intn(6) {
		most := []int{1, 60, 120, 1440}[rng.Intn(4)]
		z := impl.Zone{Name: fmt.Sprintf("z%d", i), Shift: rng.Intn(2*most+1) - most}
		at := around + rng.Intn(30000) - 10000
		for range rng.Intn(9) {
			if isTime(at) {
				z.Turns = append(z.Turns, impl.Turn{At: at, Shift: rng.Intn(2*most+1) - most})
			}
			at += turnApart + rng.Intn(2)*rng.Intn(20000)
		}
		zones = append(zones, z)
	}
	return zones
}

// someEventRule is no rule, one that comes often, or one of any sort.
func someEventRule(rng *rand.Rand, day int) impl.Rule {
	r := someRule(rng)
	switch rng.Intn(5) {
	case 0:
		return impl.Rule{}
	case 1, 2:
		r = impl.Rule{Freq: 1 + rng.Intn(2), Every: 1 + rng.Intn(3), Week: rng.Intn(7)}
	}
	switch rng.Intn(3) {
	case 0:
		r.Count = 1 + rng.Intn([]int{5, 40, 500}[rng.Intn(3)])
	case 1:
		r.Until = min(day+rng.Intn(800), impl.DayMax)
	}
	return r
}

func someOver(rng *rand.Rand, at int) impl.Over {
	o := impl.Over{At: at, Start: someBeginning(rng), Long: someLong(rng), Title: someTitle(rng)}
	if rng.Intn(4) > 0 {
		o.Start = toBeginning(at + rng.Intn(9001) - 3000)
	}
	return o
}

// someEvent is an event that is ok, its zones, and all times at which it comes.
func someEvent(rng *rand.Rand) ([]impl.Zone, impl.Event, []int) {
	e := impl.Event{Id: []string{"a", "tea", "abcdefgh", "0"}[rng.Intn(4)], Title: someTitle(rng), Start: someBeginning(rng), Long: someLong(rng)}
	zones := someClocks(rng, e.Start)
	e, times := someEventIn(rng, zones, e)
	return zones, e, times
}

// someEventIn is an event with a zone, a rule and changes, and all times at which it comes.
func someEventIn(rng *rand.Rand, zones []impl.Zone, e impl.Event) (impl.Event, []int) {
	e.Zone = zones[rng.Intn(len(zones))].Name
	e.Rule = someEventRule(rng, e.Start/dayMinutes)
	times := slowEventTimes(e)
	for range rng.Intn(13) {
		if len(times) == 0 {
			break
		}
		at := times[rng.Intn(min(len(times), 40))]
		_, found := slices.BinarySearchFunc(e.Overs, at, func(o impl.Over, at int) int { return o.At - at })
		if found || slices.Contains(e.Outs, at) {
			continue
		}
		if rng.Intn(2) == 0 && len(e.Outs) < 6 {
			e.Outs = append(e.Outs, at)
			slices.Sort(e.Outs)
		} else if len(e.Overs) < 6 {
			e.Overs = append(e.Overs, someOver(rng, at))
			slices.SortFunc(e.Overs, func(a, b impl.Over) int { return a.At - b.At })
		}
	}
	return e, times
}

// someEvents calls for many events that are ok, and the same ones each time.
func someEvents(t *testing.T, seed int64, n int, each func(rng *rand.Rand, zones []impl.Zone, e impl.Event, times []int)) {
	t.Helper()
	rng := rand.New(rand.NewSource(seed))
	for range n {
		zones, e, times := someEvent(rng)
		if !slowEventOk(zones, e) || !impl.EventOk(zones, e) {
			t.Fatalf("%s is not ok", eventAt(e))
		}
		each(rng, zones, e, times)
	}
}

// someSpan is often one that just touches what an event comes to, or just does not.
func someSpan(rng *rand.Rand, zones []impl.Zone, e impl.Event, times []int) (int, int) {
	at := e.Start
	if len(times) > 0 {
		at = times[rng.Intn(min(len(times), 60))]
	}
	if len(e.Overs) > 0 && rng.Intn(3) == 0 {
		at = e.Overs[rng.Intn(len(e.Overs))].Start
	}
	z, _ := slowZone(zones, e.Zone)
	from := slowWorld(z, at, slowTimes(z, at))
	switch rng.Intn(4) {
	case 0:
		from += e.Long + rng.Intn(3) - 1
	case 1:
		from -= rng.Intn(100000)
	}
	to := from + rng.Intn([]int{3, 1000, 50000, 600000}[rng.Intn(4)])
	if rng.Intn(4) == 0 {
		to, from = from+rng.Intn(3)-1, from-rng.Intn(5000)
	}
	return min(max(from, 0), impl.TimeMax), min(max(to, 0), impl.TimeMax)
}
