package tests

import (
	"fmt"
	"math/rand"
	"regexp"
	"slices"
	"strings"
	"time"

	"loop.example/ephemeris/impl"
)

// Texts done the long way: what may be read is told by forms, and by pieces one by one.

const (
	escMost   = 300
	lineMost  = 600
	foldMost  = 40
	icalMost  = 4000
	valueMost = 400
)

func slowEscPut(text string) string {
	if len(text) > escMost {
		return ""
	}
	return slowStrokes(text)
}

// slowStrokes writes a text of any size.
func slowStrokes(text string) string {
	text = strings.Join(strings.Split(text, `\`), `\\`)
	text = strings.Join(strings.Split(text, ";"), `\;`)
	text = strings.Join(strings.Split(text, ","), `\,`)
	return strings.Join(strings.Split(text, "\n"), `\n`)
}

// slowEscGet takes the text's beginnings away, one by one, that may stand there, as long as there is room for one more.
func slowEscGet(text string) (string, bool) {
	read := ""
	for text != "" {
		switch {
		case len(read) == escMost:
			return "", false
		case strings.HasPrefix(text, `\\`), strings.HasPrefix(text, `\;`), strings.HasPrefix(text, `\,`):
			read, text = read+text[1:2], text[2:]
		case strings.HasPrefix(text, `\n`):
			read, text = read+"\n", text[2:]
		case text[0] == '\\' || text[0] == ';' || text[0] == ',' || text[0] == '\n':
			return "", false
		default:
			read, text = read+text[:1], text[1:]
		}
	}
	return read, true
}

func slowIsLine(text string) bool {
	return len(text) <= lineMost && strings.IndexByte(text, 10) < 0 && strings.IndexByte(text, 13) < 0
}

// slowFold asks of each byte whether it begins a piece.
func slowFold(line string) string {
	if !slowIsLine(line) {
		return ""
	}
	folded := ""
	for i := range len(line) {
		if i > 1 && i%39 == 1 {
			folded += "\r\n "
		}
		folded += line[i : i+1]
	}
	return folded + "\r\n"
}

// slowUnfold asks each piece, and the one ahead of it.
func slowUnfold(text string) ([]string, bool) {
	if len(text) > icalMost {
		return nil, false
	}
	if text == "" {
		return nil, true
	}
	if !strings.HasSuffix(text, "\r\n") {
		return nil, false
	}
	pieces := strings.Split(text, "\r\n")
	pieces = pieces[:len(pieces)-1]
	var lines []string
	for i, piece := range pieces {
		if len(piece) > foldMost || !slowIsLine(piece) {
			return nil, false
		}
		if i == 0 || !strings.HasPrefix(piece, " ") {
			lines = append(lines, piece)
			continue
		}
		if len(piece) < 2 || len(pieces[i-1]) < foldMost {
			return nil, false
		}
		lines[len(lines)-1] += piece[1:]
	}
	return lines, !slices.ContainsFunc(lines, func(line string) bool { return len(line) > lineMost })
}

var (
	propNameForm   = regexp.MustCompile(`^[-A-Z]{1,16}$`)
	paramValueForm = regexp.MustCompile(`^[!-9<>-~]{0,20}$`)
	propForm       = regexp.MustCompile(`(?s)^([-A-Z]{1,16})((?:;[-A-Z]{1,16}=[!-9<>-~]{0,20}){0,3}):(.*)$`)
)

func slowValueOk(value string) bool {
	return slowIsLine(value) && len(value) <= valueMost
}

func slowPropOk(p impl.Prop) bool {
	for _, one := range p.Params {
		if !propNameForm.MatchString(one.Name) || !paramValueForm.MatchString(one.Value) {
			return false
		}
	}
	return propNameForm.MatchString(p.Name) && len(p.Params) <= 3 && slowValueOk(p.Value)
}

func slowPropPut(p impl.Prop) string {
	if !slowPropOk(p) {
		return ""
	}
	parts := []string{p.Name}
	for _, one := range p.Params {
		parts = append(parts, fmt.Sprintf("%s=%s", one.Name, one.Value))
	}
	return strings.Join(parts, ";") + ":" + p.Value
}

func slowPropGet(line string) (impl.Prop, bool) {
	m := propForm.FindStringSubmatch(line)
	if m == nil || !slowValueOk(m[3]) {
		return impl.Prop{}, false
	}
	p := impl.Prop{Name: m[1], Value: m[3]}
	for _, piece := range strings.Split(m[2], ";")[1:] {
		at := strings.IndexByte(piece, '=')
		p.Params = append(p.Params, impl.Param{Name: piece[:at], Value: piece[at+1:]})
	}
	return p, true
}

func sameProp(a impl.Prop, b impl.Prop) bool {
	return a.Name == b.Name && a.Value == b.Value && slices.Equal(a.Params, b.Params)
}

// couldBe is an event that would be ok, if its zone were there.
func couldBe(e impl.Event) bool {
	return impl.EventOk(named(e.Zone), e)
}

func slowStamp(at int) string {
	when := dayZero.AddDate(0, 0, at/dayMinutes).Add(time.Duration(at%dayMinutes) * time.Minute)
	return when.Format("20060102T150405")
}

// icalLines is the lines of an event that could be.
func icalLines(e impl.Event) []string {
	lines := []string{
		"BEGIN:VEVENT", "UID:" + e.Id, "SUMMARY:" + slowEscPut(e.Title),
		fmt.Sprintf("DTSTART;TZID=%s:%s", e.Zone, slowStamp(e.Start)), fmt.Sprintf("DURATION:PT%dM", e.Long),
	}
	if !hasNoRule(e) {
		lines = append(lines, "RRULE:"+slowRulePut(e.Rule))
	}
	for _, at := range e.Outs {
		lines = append(lines, fmt.Sprintf("EXDATE;TZID=%s:%s", e.Zone, slowStamp(at)))
	}
	lines = append(lines, "END:VEVENT")
	for _, o := range e.Overs {
		lines = append(lines, "BEGIN:VEVENT", "UID:"+e.Id, fmt.Sprintf("RECURRENCE-ID;TZID=%s:%s", e.Zone, slowStamp(o.At)),
			"SUMMARY:"+slowEscPut(o.Title), fmt.Sprintf("DTSTART;TZID=%s:%s", e.Zone, slowStamp(o.Start)),
			fmt.Sprintf("DURATION:PT%dM", o.Long), "END:VEVENT")
	}
	return lines
}

func slowFolds(lines []string) string {
	text := ""
	for _, line := range lines {
		text += slowFold(line)
	}
	return text
}

func slowIcalPut(e impl.Event) string {
	if !couldBe(e) {
		return ""
	}
	return slowFolds(icalLines(e))
}

const (
	nameTold  = `([a-z0-9]{1,8})`
	stampTold = `([0-9]{8}T[0-9]{4})00`
	titleTold = `((?:[ -+\--:<-\[\]-~]|\\[\\;,])*)`
	longTold  = `([1-9][0-9]{0,4})`
)

const (
	outForm  = `EXDATE;TZID=` + nameTold + `:` + stampTold + "\n"
	overForm = "BEGIN:VEVENT\nUID:" + nameTold + "\nRECURRENCE-ID;TZID=" + nameTold + ":" + stampTold + "\nSUMMARY:" + titleTold + "\nDTSTART;TZID=" + nameTold + ":" + stampTold + "\nDURATION:PT" + longTold + "M\nEND:VEVENT\n"
	selfForm = "^BEGIN:VEVENT\nUID:" + nameTold + "\nSUMMARY:" + titleTold + "\nDTSTART;TZID=" + nameTold + ":" + stampTold + "\nDURATION:PT" + longTold + "M\n(?:RRULE:([^\n]*)\n)?((?:" + outForm + ")*)END:VEVENT\n((?:" + overForm + ")*)$"
)

var (
	icalOut  = regexp.MustCompile(outForm)
	icalOver = regexp.MustCompile(overForm)
	icalSelf = regexp.MustCompile(selfForm)
)

// stamped is the time of a stamp without its last figures, or one that is none.
func stamped(text string) int {
	at, ok := goTimeGet(text[:4] + "-" + text[4:6] + "-" + text[6:11] + ":" + text[11:])
	if !ok {
		return -1
	}
	return at
}

func slowTitleGet(text string) string {
	title, _ := slowEscGet(text)
	return title
}

// slowIcalGet asks for the form of the whole, and then whether all parts are of one event.
func slowIcalGet(text string) (impl.Event, bool) {
	lines, ok := slowUnfold(text)
	m := icalSelf.FindStringSubmatch(strings.Join(lines, "\n") + "\n")
	if !ok || m == nil {
		return impl.Event{}, false
	}
	e := impl.Event{Id: m[1], Title: slowTitleGet(m[2]), Zone: m[3], Start: stamped(m[4]), Long: number(m[5])}
	if m[6] != "" || strings.Contains(m[0], "\nRRULE:\n") {
		if e.Rule, ok = slowRuleGet(m[6]); !ok {
			return impl.Event{}, false
		}
	}
	for _, out := range icalOut.FindAllStringSubmatch(m[7], -1) {
		e.Outs = append(e.Outs, stamped(out[2]))
		ok = ok && out[1] == e.Zone
	}
	for _, over := range icalOver.FindAllStringSubmatch(m[10], -1) {
		e.Overs = append(e.Overs, impl.Over{At: stamped(over[3]), Start: stamped(over[6]), Long: number(over[7]), Title: slowTitleGet(over[4])})
		ok = ok && over[1] == e.Id && over[2] == e.Zone && over[5] == e.Zone
	}
	if !ok || !couldBe(e) {
		return impl.Event{}, false
	}
	return e, true
}

// someBytes is a text of bytes of an alphabet, or of any, if that is empty.
func someBytes(rng *rand.Rand, size int, alphabet string) string {
	text := make([]byte, size)
	for i := range text {
		text[i] = byte(rng.Intn(256))
		if alphabet != "" {
			text[i] = alphabet[rng.Intn(len(alphabet))]
		}
	}
	return string(text)
}

// allTexts calls for each text of at most so many signs of an alphabet.
func allTexts(alphabet []string, most int, each func(text string)) {
	var more func(text string, left int)
	more = func(text string, left int) {
		each(text)
		if left == 0 {
			return
		}
		for _, sign := range alphabet {
			more(text+sign, left-1)
		}
	}
	more("", most)
}

func someProp(rng *rand.Rand) impl.Prop {
	const letters = "ABCDEFGHIJKLMNOPQRSTUVWXYZ-"
	p := impl.Prop{Name: someBytes(rng, 1+rng.Intn(16), letters)}
	for range rng.Intn(4) {
		one := impl.Param{Name: someBytes(rng, 1+rng.Intn(16), letters)}
		for len(one.Value) < rng.Intn(21) {
			if b := string([]byte{byte(33 + rng.Intn(94))}); !strings.Contains(";:=", b) {
				one.Value += b
			}
		}
		p.Params = append(p.Params, one)
	}
	p.Value = strings.NewReplacer("\r", ":", "\n", ";").Replace(someBytes(rng, rng.Intn(401), ""))
	return p
}

// signTitles are titles with signs that are written otherwise, and others that might be.
var signTitles = []string{"", ",", ";", `\`, `\n`, `\,`, `\\;`, " ", " a", "a ", ":", "=", `"`, "tea, and; more", `a\nb\;c\,d`, strings.Repeat(`\`, 16), strings.Repeat(";", 16), strings.Repeat(",", 16), strings.Repeat(" ", 16), "BEGIN:VEVENT", "END:VEVENT", "TZID=utc:2026", "~!~"}

// signed is an event some of whose titles are such, in a zone that is not there.
func signed(rng *rand.Rand, e impl.Event) impl.Event {
	e = copyEvent(e)
	e.Zone = []string{"north", "z", "abcdefgh", "0"}[rng.Intn(4)]
	if rng.Intn(2) == 0 {
		e.Title = signTitles[rng.Intn(len(signTitles))]
	}
	for i := range e.Overs {
		if rng.Intn(2) == 0 {
			e.Overs[i].Title = signTitles[rng.Intn(len(signTitles))]
		}
	}
	return e
}
