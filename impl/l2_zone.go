package impl

// Limits of zones; a time is minutes from day 0 on.
const (
	TimeMax  = 5258964959
	ShiftMax = 1440
	TurnMax  = 8
	NameMax  = 8
)

const (
	hourMinutes = 60
	dayMinutes  = 1440
	turnApart   = 10080
)

// Turn is since when (by the world's clock) a zone's clock is ahead of it by how many minutes.
type Turn struct {
	At    int
	Shift int
}

// Zone is by how many minutes a clock is ahead of the world's, and its turns.
type Zone struct {
	Name  string
	Shift int
	Turns []Turn
}

// clock is the clock of a zone that is ok.
type clock interface {
	shiftAt(at int) int
}

// steadyClock never turns.
type steadyClock struct {
	shift int
}

// turningClock has legs, on each of which it runs evenly: leg 0 is ahead of all turns, leg n begins with the n-th.
type turningClock struct {
	first int
	turns []Turn
}

// ZoneOk says whether a zone is ok.
func ZoneOk(z Zone) bool {
	return isName(z.Name) && isShift(z.Shift) && turnsOk(z.Turns)
}

// ZoneShift is by how much a zone's clock is ahead at a time of the world.
func ZoneShift(z Zone, at int) int {
	if !ZoneOk(z) || !isTime(at) {
		return 0
	}
	return clockOf(z).shiftAt(at)
}

// ZoneLocal is what a zone's clock shows at a time of the world.
func ZoneLocal(z Zone, at int) int {
	if !ZoneOk(z) || !isTime(at) {
		return -1
	}
	return at + clockOf(z).shiftAt(at)
}

// ZoneWorld is the time of the world at which a zone's clock shows a time: the first; if it never does, as if it had not turned yet.
func ZoneWorld(z Zone, local int) int {
	if !ZoneOk(z) || !isTime(local) {
		return -1
	}
	return clockWorld(clockOf(z), local)
}

// ZoneTimes is all times of the world at which a zone's clock shows a time, ascending.
func ZoneTimes(z Zone, local int) []int {
	if !ZoneOk(z) || !isTime(local) {
		return nil
	}
	return clockTimes(clockOf(z), local)
}

// TimeText is a time as a text.
func TimeText(at int) string {
	if !isTime(at) {
		return ""
	}
	minute := at % dayMinutes
	return DateText(DateOf(at/dayMinutes)) + "T" + figures(minute/hourMinutes, 2) + ":" + figures(minute%hourMinutes, 2)
}

// TimeGet reads a time.
func TimeGet(text string) (int, bool) {
	if len(text) != len("YYYY-MM-DDTHH:MM") || text[10] != 'T' || text[13] != ':' {
		return 0, false
	}
	date, ok := DateGet(text[:10])
	hour, minute := figuresGet(text[11:13]), figuresGet(text[14:])
	if !ok || hour < 0 || hour > 23 || minute < 0 || minute > 59 {
		return 0, false
	}
	return DayOf(date)*dayMinutes + hour*hourMinutes + minute, true
}

func isTime(at int) bool {
	return at >= 0 && at <= TimeMax
}

func isShift(shift int) bool {
	return shift >= -ShiftMax && shift <= ShiftMax
}

func isName(name string) bool {
	if len(name) < 1 || len(name) > NameMax {
		return false
	}
	for i := range len(name) {
		if !isNameByte(name[i]) {
			return false
		}
	}
	return true
}

func isNameByte(b byte) bool {
	return b >= 'a' && b <= 'z' || b >= '0' && b <= '9'
}

func turnsOk(turns []Turn) bool {
	if len(turns) > TurnMax {
		return false
	}
	for i, turn := range turns {
		if !isTime(turn.At) || !isShift(turn.Shift) {
			return false
		}
		if i > 0 && turn.At-turns[i-1].At < turnApart {
			return false
		}
	}
	return true
}

func clockOf(z Zone) clock {
	if len(z.Turns) == 0 {
		return steadyClock{shift: z.Shift}
	}
	return turningClock{first: z.Shift, turns: z.Turns}
}

// clockTimes parts the clocks: one that never turns shows each time at most once.
func clockTimes(c clock, local int) []int {
	switch c := c.(type) {
	case steadyClock:
		if at := local - c.shift; isTime(at) {
			return []int{at}
		}
	case turningClock:
		return c.times(local)
	}
	return nil
}

// clockWorld is the first time at which a clock shows one; only a clock that turns leaves something out.
func clockWorld(c clock, local int) int {
	if times := clockTimes(c, local); len(times) > 0 {
		return times[0]
	}
	if t, ok := c.(turningClock); ok {
		return t.skipped(local)
	}
	return -1
}

func (c steadyClock) shiftAt(at int) int {
	return c.shift
}

func (c turningClock) shiftAt(at int) int {
	return c.legShift(c.leg(at))
}

// leg is on which leg a time is.
func (c turningClock) leg(at int) int {
	leg := 0
	for leg < len(c.turns) && c.turns[leg].At <= at {
		leg++
	}
	return leg
}

func (c turningClock) legShift(leg int) int {
	if leg == 0 {
		return c.first
	}
	return c.turns[leg-1].Shift
}

// times asks each leg for its own time, not each shift: two legs side by side may have the same one.
func (c turningClock) times(local int) []int {
	var found []int
	for leg := range len(c.turns) + 1 {
		at := local - c.legShift(leg)
		if isTime(at) && c.leg(at) == leg {
			found = append(found, at)
		}
	}
	return found
}

// skipped finds the one turn that leaves a time out; there is no second one, as turns are further apart than shifts differ.
func (c turningClock) skipped(local int) int {
	for i, turn := range c.turns {
		at := local - c.legShift(i)
		if at >= turn.At && local-turn.Shift < turn.At && isTime(at) {
			return at
		}
	}
	return -1
}
