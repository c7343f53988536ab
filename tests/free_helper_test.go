package tests

import (
	"math/rand"
	"slices"

	"loop.example/ephemeris/impl"
)

// Spans done the long way: all minutes that some have, one by one, or piece by piece between all edges.

const (
	spansMost = 300
	lastEnd   = impl.TimeMax + 20160
)

func slowIsSpan(s impl.Span) bool {
	return isTime(s.From) && s.To > s.From && s.To <= lastEnd
}

func slowSpansOk(list []impl.Span) bool {
	for i, s := range list {
		if !slowIsSpan(s) || i > 0 && !(s.From > list[i-1].To) {
			return false
		}
	}
	return len(list) <= spansMost
}

func someHas(list []impl.Span, minute int) bool {
	return slices.ContainsFunc(list, func(s impl.Span) bool { return s.From <= minute && minute < s.To })
}

// slowTaken is the first so many that count for Busy.
func slowTaken(list []impl.Span) []impl.Span {
	var taken []impl.Span
	for _, s := range list {
		if slowIsSpan(s) {
			taken = append(taken, s)
		}
	}
	return taken[:min(len(taken), spansMost)]
}

// pieced is all minutes from one on to ahead of another one that are asked for, which are the same between two edges.
func pieced(edges []int, is func(minute int) bool) []impl.Span {
	slices.Sort(edges)
	var list []impl.Span
	for i := 1; i < len(edges); i++ {
		if edges[i-1] == edges[i] || !is(edges[i-1]) {
			continue
		}
		if n := len(list); n > 0 && list[n-1].To == edges[i-1] {
			list[n-1].To = edges[i]
		} else {
			list = append(list, impl.Span{From: edges[i-1], To: edges[i]})
		}
	}
	return list
}

func edgesOf(list []impl.Span, more ...int) []int {
	for _, s := range list {
		more = append(more, s.From, s.To)
	}
	return more
}

func slowBusy(list []impl.Span) []impl.Span {
	taken := slowTaken(list)
	return pieced(edgesOf(taken), func(minute int) bool { return someHas(taken, minute) })
}

func slowFree(list []impl.Span, from int, to int) []impl.Span {
	if !slowSpansOk(list) || !isTime(from) || !isTime(to) || from > to {
		return nil
	}
	return pieced(edgesOf(list, from, to), func(minute int) bool { return minute >= from && minute < to && !someHas(list, minute) })
}

func slowSlot(list []impl.Span, from int, to int, long int) int {
	if long >= 1 && long <= 20160 {
		for _, s := range slowFree(list, from, to) {
			if s.To-s.From >= long {
				return s.From
			}
		}
	}
	return -1
}

func slowSize(list []impl.Span) int {
	size := 0
	if slowSpansOk(list) {
		for _, s := range list {
			size += s.To - s.From
		}
	}
	return size
}

// slowBusyOf is BusyOf, given all times at which each event comes; zones and all of these events are ok, or there are no times.
func slowBusyOf(zones []impl.Zone, events []impl.Event, times [][]int, from int, to int) []impl.Span {
	if !isTime(from) || !isTime(to) {
		return nil
	}
	var hits []impl.Span
	for i, e := range events {
		for _, h := range firstHits(slowHits(zones, e, times[i], from, to)) {
			hits = append(hits, impl.Span{From: h.From, To: h.To})
		}
	}
	return pieced(edgesOf(hits, from, to), func(minute int) bool { return minute >= from && minute < to && someHas(hits, minute) })
}

// someSpans are spans of all sorts around a time: apart, touching, within one another, in any order, some of them none.
func someSpans(rng *rand.Rand, n int, around int) []impl.Span {
	var list []impl.Span
	wide := []int{10, 100, 3000, 100000}[rng.Intn(4)]
	for range n {
		s := impl.Span{From: around + rng.Intn(2*wide) - wide}
		s.To = s.From + 1 + rng.Intn(1+wide/2)
		if len(list) > 0 && rng.Intn(4) == 0 {
			other := list[rng.Intn(len(list))]
			long := s.To - s.From
			s.From = other.To + rng.Intn(3) - 1
			s.To = s.From + long
		}
		if rng.Intn(10) == 0 {
			s.To = s.From - rng.Intn(3)
		}
		list = append(list, s)
	}
	return list
}

func someAround(rng *rand.Rand) int {
	return []int{0, 20, 1000000, impl.TimeMax - 20, impl.TimeMax, lastEnd - 50}[rng.Intn(6)]
}

func backward(list []impl.Span) []impl.Span {
	list = slices.Clone(list)
	slices.Reverse(list)
	return list
}
