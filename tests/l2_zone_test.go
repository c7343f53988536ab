package tests

import (
	"fmt"
	"math"
	"math/rand"
	"slices"
	"strings"
	"testing"

	"loop.example/ephemeris/impl"
)

func TestZoneLimits(t *testing.T) {
	if impl.TimeMax != 5258964959 || impl.ShiftMax != 1440 || impl.TurnMax != 8 || impl.NameMax != 8 {
		t.Error(impl.TimeMax, impl.ShiftMax, impl.TurnMax, impl.NameMax)
	}
}

func mustTime(t *testing.T, text string) int {
	t.Helper()
	at, ok := goTimeGet(text)
	if !ok {
		t.Fatal(text)
	}
	return at
}

// turnsFrom are turns with these shifts, the first at a time, each just as far behind the one ahead as it must be.
func turnsFrom(at int, shifts ...int) []impl.Turn {
	var turns []impl.Turn
	for i, shift := range shifts {
		turns = append(turns, impl.Turn{At: at + i*turnApart, Shift: shift})
	}
	return turns
}

func north(t *testing.T) impl.Zone {
	return impl.Zone{Name: "north", Shift: 60, Turns: []impl.Turn{{At: mustTime(t, "2026-03-29T01:00"), Shift: 120}, {At: mustTime(t, "2026-10-25T01:00"), Shift: 60}}}
}

func TestZoneOk(t *testing.T) {
	all := turnsFrom(0, 1, 2, 3, 4, 5, 6, 7, 8)
	last := impl.TimeMax - 7*turnApart
	for i, c := range []struct {
		zone impl.Zone
		ok   bool
	}{
		{impl.Zone{Name: "utc"}, true}, {north(t), true}, {impl.Zone{Name: "a", Turns: []impl.Turn{}}, true},
		{impl.Zone{Name: "a", Shift: 1440}, true}, {impl.Zone{Name: "a", Shift: 1441}, false},
		{impl.Zone{Name: "a", Shift: -1440}, true}, {impl.Zone{Name: "a", Shift: -1441}, false},
		{impl.Zone{Name: "a", Shift: math.MaxInt}, false}, {impl.Zone{Name: "a", Shift: math.MinInt}, false},
		{impl.Zone{Name: "a", Turns: all}, true}, {impl.Zone{Name: "a", Turns: turnsFrom(0, 1, 2, 3, 4, 5, 6, 7, 8, 9)}, false},
		{impl.Zone{Name: "a", Turns: turnsFrom(last, 1, 2, 3, 4, 5, 6, 7, 8)}, true}, {impl.Zone{Name: "a", Turns: turnsFrom(last+1, 1, 2, 3, 4, 5, 6, 7, 8)}, false},
		{impl.Zone{Name: "a", Turns: make([]impl.Turn, 1000)}, false},
		{impl.Zone{Name: "a", Turns: turnsFrom(7, 1440, -1440)}, true}, {impl.Zone{Name: "a", Turns: turnsFrom(7, 1441, 0)}, false}, {impl.Zone{Name: "a", Turns: turnsFrom(7, 0, -1441)}, false},
		{impl.Zone{Name: "a", Turns: turnsFrom(7, math.MinInt)}, false}, {impl.Zone{Name: "a", Turns: turnsFrom(7, 0, 0, math.MaxInt)}, false},
		{impl.Zone{Name: "a", Turns: []impl.Turn{{At: 0}}}, true}, {impl.Zone{Name: "a", Turns: []impl.Turn{{At: -1}}}, false},
		{impl.Zone{Name: "a", Turns: []impl.Turn{{At: impl.TimeMax}}}, true}, {impl.Zone{Name: "a", Turns: []impl.Turn{{At: impl.TimeMax + 1}}}, false},
		{impl.Zone{Name: "a", Turns: []impl.Turn{{At: 100}, {At: 10180}}}, true}, {impl.Zone{Name: "a", Turns: []impl.Turn{{At: 100}, {At: 10179}}}, false},
		{impl.Zone{Name: "a", Turns: []impl.Turn{{At: 100}, {At: 100}}}, false}, {impl.Zone{Name: "a", Turns: []impl.Turn{{At: 20180}, {At: 100}}}, false},
		{impl.Zone{Name: "a", Turns: []impl.Turn{{At: 0}, {At: 30000}, {At: 40079}}}, false}, {impl.Zone{Name: "a", Turns: []impl.Turn{{At: 0}, {At: 30000}, {At: 40080}}}, true},
		{impl.Zone{Name: "a", Turns: []impl.Turn{{At: math.MinInt}, {At: math.MaxInt}}}, false}, {impl.Zone{Name: "a", Turns: []impl.Turn{{At: 0}, {At: math.MinInt}}}, false}, {impl.Zone{Name: "a", Turns: []impl.Turn{{At: 0}, {At: math.MaxInt}}}, false},
	} {
		if impl.ZoneOk(c.zone) != c.ok || slowZoneOk(c.zone) != c.ok {
			t.Errorf("zone %d: %v", i, impl.ZoneOk(c.zone))
		}
	}
}

func TestZoneName(t *testing.T) {
	names := []string{"", "a", "z", "0", "9", "az09", "abcdefgh", "abcdefghi", "01234567", "012345678", "A", "north ", " north", "no rth", "é", "no-rth", "no_rth", "a\x00", "a\n", "\xff", strings.Repeat("a", 1000)}
	for b := range 256 {
		one := string([]byte{byte(b)})
		names = append(names, one, "a"+one, one+"a", "abc"+one+"def", "abcdefg"+one)
	}
	for _, name := range names {
		want := slowNameOk(name)
		if impl.ZoneOk(impl.Zone{Name: name}) != want {
			t.Errorf("%q: %v", name, !want)
		}
	}
}

// someZones are zones that are ok, whose turns, if they have any, lie within 90000 minutes from a time on.
func someZones(from int) []impl.Zone {
	var list []impl.Zone
	for _, shift := range []int{-1440, -1439, -60, -1, 0, 1, 60, 1439, 1440} {
		list = append(list, impl.Zone{Name: "steady", Shift: shift})
	}
	list = append(list,
		impl.Zone{Name: "same", Shift: 60, Turns: turnsFrom(from+9000, 60, 60, 120, 120)},
		impl.Zone{Name: "wild", Shift: 1440, Turns: turnsFrom(from, -1440, 1440, -1440, 1440, -1440, 1440, -1440, 1440)},
		impl.Zone{Name: "wild2", Shift: -1440, Turns: turnsFrom(from, 1440, -1440, 1440, -1440, 1440, -1440, 1440, -1440)},
		impl.Zone{Name: "on", Shift: 0, Turns: turnsFrom(from+1, 60)},
		impl.Zone{Name: "back", Shift: 60, Turns: turnsFrom(from+20000, 0)},
		impl.Zone{Name: "minute", Shift: 0, Turns: turnsFrom(from+5, 1, 0, -1, 0)},
	)
	r := rand.New(rand.NewSource(1))
	for range 25 {
		z := impl.Zone{Name: "any", Shift: r.Intn(2881) - 1440}
		at := from + r.Intn(3000)
		for range r.Intn(9) {
			z.Turns = append(z.Turns, impl.Turn{At: at, Shift: r.Intn(2881) - 1440})
			at += turnApart + r.Intn(2)*r.Intn(1000)
		}
		list = append(list, z)
	}
	return list
}

// checkWindow asks all of chapter 2 about a clock from a time of the world to another one, and holds it against what the clock shows minute by minute.
func checkWindow(t *testing.T, z impl.Zone, from int, to int) {
	t.Helper()
	if !impl.ZoneOk(z) || !slowZoneOk(z) {
		t.Fatalf("%v is not ok", z)
	}
	shown := make([][]int, to-from+1+2*1440)
	for at := from; at <= to; at++ {
		shift := slowShift(z, at)
		if impl.ZoneShift(z, at) != shift || impl.ZoneLocal(z, at) != at+shift {
			t.Fatalf("%v at %d: %d %d", z, at, impl.ZoneShift(z, at), impl.ZoneLocal(z, at))
		}
		shown[at+shift-from+1440] = append(shown[at+shift-from+1440], at)
	}
	first, last := from+1440, to-1440
	if from == 0 {
		first = 0
	}
	if to == impl.TimeMax {
		last = impl.TimeMax
	}
	for local := first; local <= last; local++ {
		want := shown[local-from+1440]
		if got := impl.ZoneTimes(z, local); !slices.Equal(got, want) {
			t.Fatalf("%v shows %d at %v, not %v", z, local, got, want)
		}
		if got := impl.ZoneWorld(z, local); got != slowWorld(z, local, want) {
			t.Fatalf("%v: %d is %d, not %d", z, local, got, slowWorld(z, local, want))
		}
	}
	for at := from + 2880; at <= to-2880; at++ {
		local := at + slowShift(z, at)
		if got := impl.ZoneWorld(z, local); got > at || got < at-2880 || got+slowShift(z, got) != local {
			t.Fatalf("%v shows %d at %d, told %d", z, local, at, got)
		}
	}
}

// P9, P10, P11, P42, P43: minute by minute, at the beginning of all time, within, and at its end.
func TestClockMinutes(t *testing.T) {
	for _, z := range someZones(0) {
		checkWindow(t, z, 0, 95000)
	}
	middle := 1065000000
	for _, z := range someZones(middle) {
		checkWindow(t, z, middle-4000, middle+95000)
	}
	for _, z := range someZones(impl.TimeMax - 7*turnApart) {
		for len(z.Turns) > 0 && z.Turns[len(z.Turns)-1].At > impl.TimeMax {
			z.Turns = z.Turns[:len(z.Turns)-1]
		}
		checkWindow(t, z, impl.TimeMax-90000, impl.TimeMax)
	}
}

// P9: at a turn, and a minute ahead of it.
func TestShiftAtTurns(t *testing.T) {
	z := impl.Zone{Name: "z", Shift: 5, Turns: turnsFrom(1000, 10, -20, 30, -40, 50, -60, 70, -80)}
	ahead := z.Shift
	for i, turn := range z.Turns {
		if got := impl.ZoneShift(z, turn.At); got != turn.Shift {
			t.Errorf("turn %d: %d", i, got)
		}
		if got := impl.ZoneShift(z, turn.At-1); got != ahead {
			t.Errorf("ahead of turn %d: %d", i, got)
		}
		if got := impl.ZoneLocal(z, turn.At); got != turn.At+turn.Shift {
			t.Errorf("turn %d shows %d", i, got)
		}
		ahead = turn.Shift
	}
	if impl.ZoneShift(z, 0) != 5 || impl.ZoneShift(z, impl.TimeMax) != -80 {
		t.Error(impl.ZoneShift(z, 0), impl.ZoneShift(z, impl.TimeMax))
	}
}

// P9: what a clock shows is the sum, a time or not.
func TestLocalAtEnds(t *testing.T) {
	for _, c := range []struct{ shift, at, local int }{
		{-60, 0, -60}, {-60, 59, -1}, {-60, 60, 0}, {-1440, 0, -1440}, {1440, 0, 1440},
		{60, impl.TimeMax, impl.TimeMax + 60}, {1440, impl.TimeMax, impl.TimeMax + 1440}, {-1440, impl.TimeMax, impl.TimeMax - 1440}, {0, 0, 0}, {0, impl.TimeMax, impl.TimeMax},
	} {
		z := impl.Zone{Name: "z", Shift: c.shift}
		if impl.ZoneLocal(z, c.at) != c.local || impl.ZoneShift(z, c.at) != c.shift {
			t.Errorf("%v: %d %d", c, impl.ZoneLocal(z, c.at), impl.ZoneShift(z, c.at))
		}
	}
}

// P10, P11: a clock that leaves times out, and one that goes back.
func TestNorth(t *testing.T) {
	z := north(t)
	for _, c := range []struct {
		local, world string
		times        []string
	}{
		{"2026-03-29T01:59", "2026-03-29T00:59", []string{"2026-03-29T00:59"}},
		{"2026-03-29T02:00", "2026-03-29T01:00", nil}, {"2026-03-29T02:30", "2026-03-29T01:30", nil}, {"2026-03-29T02:59", "2026-03-29T01:59", nil},
		{"2026-03-29T03:00", "2026-03-29T01:00", []string{"2026-03-29T01:00"}},
		{"2026-10-25T01:59", "2026-10-24T23:59", []string{"2026-10-24T23:59"}},
		{"2026-10-25T02:00", "2026-10-25T00:00", []string{"2026-10-25T00:00", "2026-10-25T01:00"}},
		{"2026-10-25T02:59", "2026-10-25T00:59", []string{"2026-10-25T00:59", "2026-10-25T01:59"}},
		{"2026-10-25T03:00", "2026-10-25T02:00", []string{"2026-10-25T02:00"}},
		{"0001-01-01T01:00", "0001-01-01T00:00", []string{"0001-01-01T00:00"}},
		{"9999-12-31T23:59", "9999-12-31T22:59", []string{"9999-12-31T22:59"}},
	} {
		local := mustTime(t, c.local)
		var want []int
		for _, text := range c.times {
			want = append(want, mustTime(t, text))
		}
		if impl.ZoneWorld(z, local) != mustTime(t, c.world) || !slices.Equal(impl.ZoneTimes(z, local), want) {
			t.Errorf("%s: %s %v", c.local, impl.TimeText(impl.ZoneWorld(z, local)), impl.ZoneTimes(z, local))
		}
	}
	if impl.ZoneWorld(z, 59) != -1 || len(impl.ZoneTimes(z, 59)) != 0 {
		t.Error("a clock that is ahead shows nothing that early")
	}
}

// P10, P11: turns at the ends of all time.
func TestTurnsAtEnds(t *testing.T) {
	last := impl.TimeMax
	for i, c := range []struct {
		shift, at, turn, local, world int
		times                         []int
	}{
		{0, 0, 60, 0, 0, nil}, {0, 0, 60, 59, 59, nil}, {0, 0, 60, 60, 0, []int{0}},
		{-1440, 0, 1440, 0, 1440, nil}, {-1440, 0, 1440, 1439, 2879, nil}, {-1440, 0, 1440, 1440, 0, []int{0}},
		{60, 0, 0, 0, 0, []int{0}}, {60, 0, 120, 0, -1, nil}, {60, 0, 120, 59, -1, nil}, {60, 0, 120, 60, 0, nil}, {60, 0, 120, 119, 59, nil},
		{0, last, 60, last, last, nil}, {0, last, 60, last - 1, last - 1, []int{last - 1}}, {0, last, 0, last, last, []int{last}},
		{-60, last, 0, last, last, []int{last}}, {-60, last, 60, last, -1, nil}, {-60, last, 60, last - 60, last, nil}, {-60, last, 60, last - 59, -1, nil},
		{-60, last, 60, last - 61, last - 1, []int{last - 1}}, {-60, last, -60, last - 60, last, []int{last}}, {-60, last, -60, last - 59, -1, nil},
		{60, last, -60, last - 60, last - 120, []int{last - 120, last}}, {60, last, -60, last, last - 60, []int{last - 60}}, {-1440, last, 1440, last, -1, nil},
	} {
		z := impl.Zone{Name: "z", Shift: c.shift, Turns: []impl.Turn{{At: c.at, Shift: c.turn}}}
		if impl.ZoneWorld(z, c.local) != c.world || !slices.Equal(impl.ZoneTimes(z, c.local), c.times) {
			t.Errorf("case %d: %d %v", i, impl.ZoneWorld(z, c.local), impl.ZoneTimes(z, c.local))
		}
	}
}

// P42: what a clock shows is of then, or of a time ahead at which it showed the same.
func TestWorldOfLocal(t *testing.T) {
	z := north(t)
	for _, turn := range z.Turns {
		for at := turn.At - 500; at <= turn.At+500; at++ {
			local := impl.ZoneLocal(z, at)
			got := impl.ZoneWorld(z, local)
			if got > at || impl.ZoneLocal(z, got) != local {
				t.Errorf("%d shows %d, told %d", at, local, got)
			}
		}
	}
	at := mustTime(t, "2026-10-25T01:30")
	if got := impl.ZoneWorld(z, impl.ZoneLocal(z, at)); got != at-60 {
		t.Errorf("%s", impl.TimeText(got))
	}
}

// P43
func TestSteadyClock(t *testing.T) {
	for shift := -1440; shift <= 1440; shift++ {
		z := impl.Zone{Name: "z", Shift: shift}
		for _, local := range []int{0, 1, 59, 60, 1439, 1440, 1441, 739616 * 1440, impl.TimeMax - 1441, impl.TimeMax - 1440, impl.TimeMax - 1439, impl.TimeMax - 60, impl.TimeMax - 1, impl.TimeMax} {
			var want []int
			world := -1
			if isTime(local - shift) {
				want, world = []int{local - shift}, local-shift
			}
			if !slices.Equal(impl.ZoneTimes(z, local), want) || impl.ZoneWorld(z, local) != world {
				t.Fatalf("%d ahead, %d: %v %d", shift, local, impl.ZoneTimes(z, local), impl.ZoneWorld(z, local))
			}
		}
	}
}

// P9, P10, P11: a zone that is not ok, and what is no time, have their fixed answers.
func TestNoClock(t *testing.T) {
	good := north(t)
	bad := []impl.Zone{{}, {Name: "North"}, {Name: "toolongname"}, {Name: "a", Shift: 1441}, {Name: "a", Shift: -1441}, {Name: "a", Shift: 60, Turns: []impl.Turn{{At: 9, Shift: 1441}}}, {Name: "a", Shift: 60, Turns: []impl.Turn{{At: -1, Shift: 60}}}, {Name: "a", Shift: 60, Turns: []impl.Turn{{At: 0}, {At: 10079}}}, {Name: "a", Shift: 60, Turns: turnsFrom(0, 1, 2, 3, 4, 5, 6, 7, 8, 9)}}
	check := func(z impl.Zone, at int) {
		if impl.ZoneShift(z, at) != 0 || impl.ZoneLocal(z, at) != -1 || impl.ZoneWorld(z, at) != -1 || len(impl.ZoneTimes(z, at)) != 0 {
			t.Errorf("%v at %d: %d %d %d %v", z, at, impl.ZoneShift(z, at), impl.ZoneLocal(z, at), impl.ZoneWorld(z, at), impl.ZoneTimes(z, at))
		}
	}
	for _, z := range bad {
		for _, at := range append([]int{5000, 20000}, wildInts...) {
			check(z, at)
		}
	}
	for _, at := range append([]int{-60, -2, impl.TimeMax + 2, impl.TimeMax + 60}, wildInts...) {
		if !isTime(at) {
			check(good, at)
			check(impl.Zone{Name: "z", Shift: 60}, at)
			check(impl.Zone{Name: "z", Shift: -60}, at)
		}
	}
}

// P8
func TestTimeText(t *testing.T) {
	step := 10007
	for at := 0; at <= impl.TimeMax; at += step {
		checkTime(t, at)
	}
	for _, day := range []int{0, 1, 58, 364, 730, 739616, 739700, impl.DayMax - 1, impl.DayMax} {
		for minute := range dayMinutes {
			checkTime(t, day*dayMinutes+minute)
		}
	}
	for _, c := range []struct {
		at   int
		text string
	}{
		{0, "0001-01-01T00:00"}, {1, "0001-01-01T00:01"}, {1439, "0001-01-01T23:59"}, {1440, "0001-01-02T00:00"}, {739935*1440 + 545, "2026-11-16T09:05"}, {impl.TimeMax, "9999-12-31T23:59"},
		{-1, ""}, {-1440, ""}, {impl.TimeMax + 1, ""}, {math.MinInt, ""}, {math.MaxInt, ""},
	} {
		if got := impl.TimeText(c.at); got != c.text {
			t.Errorf("%d: %q", c.at, got)
		}
	}
}

func checkTime(t *testing.T, at int) {
	t.Helper()
	text := impl.TimeText(at)
	d := goDate(at / dayMinutes)
	if text != fmt.Sprintf("%04d-%02d-%02dT%02d:%02d", d.Year, d.Month, d.Day, at%dayMinutes/60, at%60) {
		t.Fatalf("%d: %q", at, text)
	}
	if got, ok := impl.TimeGet(text); !ok || got != at {
		t.Fatalf("%q: %d %v", text, got, ok)
	}
}

func checkTimeGet(t *testing.T, text string) {
	t.Helper()
	want, ok := goTimeGet(text)
	if got, is := impl.TimeGet(text); got != want || is != ok {
		t.Errorf("%q: %d %v", text, got, is)
	} else if is && impl.TimeText(got) != text {
		t.Errorf("%q is written %q", text, impl.TimeText(got))
	}
}

// P8: texts that are not just as the document writes them.
func TestTimeGet(t *testing.T) {
	for _, base := range []string{"2026-11-16T09:05", "0001-01-01T00:00", "9999-12-31T23:59", "2024-02-29T12:30"} {
		for _, text := range nearTexts(base) {
			checkTimeGet(t, text)
		}
	}
	for hour := range 100 {
		for minute := range 100 {
			checkTimeGet(t, fmt.Sprintf("2026-11-16T%02d:%02d", hour, minute))
			checkTimeGet(t, fmt.Sprintf("2026-02-29T%02d:%02d", hour, minute))
		}
	}
	for _, text := range []string{"2026-01-01", "2026-01-01T", "2026-01-01T24:00", "2026-01-01T00:60", "2026-01-01 00:00", "2026-01-01t00:00", "2026-01-01T0:00", "2026-01-01T00:0", "2026-01-01T00:00Z", "2026-01-01T00:00:00", "2026-01-01T0000", "2026-01-01T+1:00", "2026-01-01T-1:00", "2026-01-01T00:-1", "2026-01-01T00:+1", "0000-01-01T00:00", "10000-01-01T00:00", "2026-02-29T00:00", "2026-13-01T00:00", " 2026-01-01T00:00", "2026-01-01T00:00\n", "2026-01-01T0１:00"} {
		if got, ok := impl.TimeGet(text); ok || got != 0 {
			t.Errorf("%q: %d %v", text, got, ok)
		}
	}
}
