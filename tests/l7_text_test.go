package tests

import (
	"math/rand"
	"slices"
	"strings"
	"testing"

	"loop.example/ephemeris/impl"
)

func TestTextLimits(t *testing.T) {
	if impl.FoldMax != 40 || impl.ParamMax != 3 || impl.IcalMax != 4000 {
		t.Error(impl.FoldMax, impl.ParamMax, impl.IcalMax)
	}
}

// checkEsc writes a text, and reads it, too, as if it had been written.
func checkEsc(t *testing.T, text string) {
	t.Helper()
	put := impl.EscPut(text)
	if put != slowEscPut(text) {
		t.Fatalf("%q is written %q", text, put)
	}
	if back, ok := impl.EscGet(put); len(text) <= 300 && (!ok || back != text) {
		t.Fatalf("%q is read back %q %v", text, back, ok)
	}
	want, is := slowEscGet(text)
	got, ok := impl.EscGet(text)
	if ok != is || got != want {
		t.Fatalf("%q is read %q %v", text, got, ok)
	}
	if ok && impl.EscPut(got) != text {
		t.Fatalf("%q is read %q, which is written otherwise", text, got)
	}
}

func TestEscExamples(t *testing.T) {
	for _, c := range []struct{ text, put string }{
		{"", ""}, {"a", "a"}, {"a b", "a b"}, {`\`, `\\`}, {";", `\;`}, {",", `\,`}, {"\n", `\n`}, {"n", "n"}, {`\n`, `\\n`}, {"\\\n", `\\\n`}, {":", ":"}, {"=", "="}, {`"`, `"`}, {"\r", "\r"}, {"\r\n", "\r\\n"}, {"N", "N"},
		{"\x00", "\x00"}, {"\xff", "\xff"}, {"é,ü", `é\,ü`}, {";;", `\;\;`}, {`\;`, `\\\;`}, {"a,b;c\\d\ne", `a\,b\;c\\d\ne`}, {"\t", "\t"}, {"\u2028", "\u2028"},
	} {
		got, ok := impl.EscGet(c.put)
		if impl.EscPut(c.text) != c.put || !ok || got != c.text {
			t.Errorf("%q: %q, and back %q %v", c.text, impl.EscPut(c.text), got, ok)
		}
	}
	for _, text := range []string{`\`, `a\`, `\\\`, `\n\`, ";", ",", "a;", ",a", "\n", "a\nb", "\\\n", `\a`, `\N`, `\:`, `\ `, `\"`, "\\\x00", "\\\xff", "\\\r", `\\;`, `\\,`, "\\\\\n", `\;,`, `a\;b;c`, "\r\n"} {
		if got, ok := impl.EscGet(text); ok || got != "" {
			t.Errorf("%q is read %q %v", text, got, ok)
		}
	}
}

// All short texts of the signs that count, all texts of two bytes, and each byte behind a stroke among others.
func TestEscOfAllSmall(t *testing.T) {
	allTexts([]string{"a", "n", `\`, ";", ",", "\n", "\r", "\xff"}, 5, func(text string) { checkEsc(t, text) })
	for a := range 256 {
		for b := range 256 {
			checkEsc(t, string([]byte{byte(a), byte(b)}))
		}
		checkEsc(t, `x\`+string([]byte{byte(a)})+"y")
		checkEsc(t, `x\\`+string([]byte{byte(a)})+"y")
	}
}

func TestEscSizes(t *testing.T) {
	for size := range 620 {
		for _, sign := range []string{"a", " ", ";", `\`, "\n", "\x00", "\xe9"} {
			text := strings.Repeat(sign, size)
			checkEsc(t, text)
			if got := impl.EscPut(text); (got != "") != (size > 0 && size <= 300) {
				t.Errorf("%d of %q: %d bytes", size, sign, len(got))
			}
		}
		if got, ok := impl.EscGet(strings.Repeat("a", size)); ok != (size <= 300) || ok != (len(got) == size) {
			t.Errorf("%d bytes: %v", size, ok)
		}
		text := strings.Repeat(`\;`, size/2) + strings.Repeat("a", size%2)
		if got, ok := impl.EscGet(text); ok != (size <= 600) || ok != (len(got) == (size+1)/2) {
			t.Errorf("%d bytes, half of them strokes: %v", size, ok)
		}
	}
	for _, size := range []int{301, 600, 601, 100000} {
		checkEsc(t, strings.Repeat("a", size))
		checkEsc(t, strings.Repeat(`\\`, size))
	}
}

// checkStrokes writes a text of any size, and reads that, and the same with what is never written at its ends.
func checkStrokes(t *testing.T, text string) {
	t.Helper()
	put := slowStrokes(text)
	checkEsc(t, text)
	checkEsc(t, put)
	if got, ok := impl.EscGet(put); ok != (len(text) <= 300) || ok != (got == text) {
		t.Fatalf("%d bytes, written with %d: %d bytes, %v", len(text), len(put), len(got), ok)
	}
	for _, wrong := range []string{put + `\`, put + ";", put + `\x`, ";" + put, `\x` + put, "\n" + put} {
		checkEsc(t, wrong)
		if got, ok := impl.EscGet(wrong); ok || got != "" {
			t.Fatalf("%q is read %q %v", wrong, got, ok)
		}
	}
}

// Texts about the limit, and about half of it, with each number of strokes, ahead of all else or behind it.
func TestEscOfManyStrokes(t *testing.T) {
	for _, size := range []int{1, 2, 149, 150, 151, 152, 298, 299, 300, 301, 302} {
		for strokes := range size + 1 {
			sign := []string{";", ",", `\`, "\n"}[strokes%4]
			checkStrokes(t, strings.Repeat(sign, strokes)+strings.Repeat("a", size-strokes))
			checkStrokes(t, strings.Repeat("a", size-strokes)+strings.Repeat(sign, strokes))
		}
	}
}

func TestEscOfAllSorts(t *testing.T) {
	rng := rand.New(rand.NewSource(61))
	for range 6000 {
		checkEsc(t, someBytes(rng, rng.Intn(302), ""))
		checkEsc(t, someBytes(rng, rng.Intn(20), `an\;,`+"\n"))
		checkStrokes(t, someBytes(rng, rng.Intn(310), `an \;,`+"\n"))
	}
}

// checkFold folds a text, and unfolds it.
func checkFold(t *testing.T, line string) {
	t.Helper()
	got := impl.Fold(line)
	if got != slowFold(line) {
		t.Fatalf("%q is folded %q", line, got)
	}
	lines, ok := impl.Unfold(got)
	if got == "" {
		if slowIsLine(line) {
			t.Fatalf("%q is a line", line)
		}
		return
	}
	if !ok || !slices.Equal(lines, []string{line}) {
		t.Fatalf("%q is unfolded %q %v", line, lines, ok)
	}
	for _, piece := range strings.Split(strings.TrimSuffix(got, "\r\n"), "\r\n") {
		if len(piece) > impl.FoldMax {
			t.Fatalf("%q has a piece of %d", got, len(piece))
		}
	}
}

func TestFoldExamples(t *testing.T) {
	forty, more := strings.Repeat("a", 40), strings.Repeat("b", 39)
	for _, c := range []struct{ line, want string }{
		{"", "\r\n"}, {"a", "a\r\n"}, {" ", " \r\n"}, {" a", " a\r\n"}, {forty[1:], forty[1:] + "\r\n"}, {forty, forty + "\r\n"},
		{forty + "b", forty + "\r\n b\r\n"}, {forty + " ", forty + "\r\n  \r\n"}, {forty + more[1:], forty + "\r\n " + more[1:] + "\r\n"},
		{forty + more, forty + "\r\n " + more + "\r\n"}, {forty + more + "c", forty + "\r\n " + more + "\r\n c\r\n"},
		{forty + more + more, forty + "\r\n " + more + "\r\n " + more + "\r\n"}, {forty + " " + more, forty + "\r\n  " + more[1:] + "\r\n b\r\n"},
		{"\n", ""}, {"\r", ""}, {"a\r\n", ""}, {"a\nb", ""}, {"a\rb", ""}, {strings.Repeat("a", 601), ""}, {forty + "\n", ""},
	} {
		if got := impl.Fold(c.line); got != c.want {
			t.Errorf("%q: %q", c.line, got)
		}
	}
}

// Lines of all sizes, of bytes that are all others than those at their sides, of blanks, and of letters of two bytes, which are cut.
func TestFoldSizes(t *testing.T) {
	counted := make([]byte, 640)
	for i := range counted {
		counted[i] = byte(14 + i%242)
	}
	for size := range 640 {
		checkFold(t, string(counted[:size]))
		checkFold(t, strings.Repeat(" ", size))
		checkFold(t, strings.Repeat("é", 320)[:size])
		checkFold(t, strings.Repeat("é", 320)[1:size+1])
		want := 0
		if size <= 600 {
			want = size + 2 + 3*((max(size, 40)-40+38)/39)
		}
		if got := len(impl.Fold(string(counted[:size]))); got != want {
			t.Errorf("%d bytes: %d, not %d", size, got, want)
		}
	}
	checkFold(t, strings.Repeat("a", 100000))
}

// Bytes 10 and 13 are in no line, wherever they stand; all others may be.
func TestFoldBytes(t *testing.T) {
	for b := range 256 {
		one := string([]byte{byte(b)})
		for _, size := range []int{1, 2, 41, 80, 600} {
			for _, at := range []int{0, 1, 38, 39, 40, 78, 79, 117, 118, 599} {
				if at < size {
					checkFold(t, strings.Repeat("x", at)+one+strings.Repeat("x", size-at-1))
				}
			}
		}
		if got := impl.Fold(one); (got == "") != (b == 10 || b == 13) {
			t.Errorf("byte %d: %q", b, got)
		}
	}
}

// checkUnfold reads a text as lines, and writes these.
func checkUnfold(t *testing.T, text string) bool {
	t.Helper()
	want, is := slowUnfold(text)
	if !is {
		want = nil
	}
	got, ok := impl.Unfold(text)
	if ok != is || !slices.Equal(got, want) {
		t.Fatalf("%q is unfolded %q %v, not %q %v", text, got, ok, want, is)
	}
	if !ok {
		return false
	}
	again := ""
	for i, line := range got {
		again += impl.Fold(line)
		if i > 0 && strings.HasPrefix(line, " ") {
			t.Fatalf("%q: line %d begins with a blank", text, i)
		}
	}
	if again != text {
		t.Fatalf("%q is folded %q", text, again)
	}
	return true
}

func TestUnfoldExamples(t *testing.T) {
	forty, more := strings.Repeat("a", 40), strings.Repeat("b", 39)
	for _, c := range []struct {
		text string
		want []string
	}{
		{"", nil}, {"\r\n", []string{""}}, {"\r\n\r\n", []string{"", ""}}, {"a\r\n", []string{"a"}}, {"a\r\nb\r\n", []string{"a", "b"}}, {"a\r\n\r\nb\r\n", []string{"a", "", "b"}},
		{" \r\n", []string{" "}}, {" a\r\n", []string{" a"}}, {"  \r\nb\r\n", []string{"  ", "b"}}, {forty + "\r\n", []string{forty}},
		{forty + "\r\nb\r\n", []string{forty, "b"}}, {forty + "\r\n b\r\n", []string{forty + "b"}}, {forty + "\r\n  \r\n", []string{forty + " "}}, {forty + "\r\n b\r\nc\r\n", []string{forty + "b", "c"}},
		{" " + more + "\r\n b\r\n", []string{" " + more + "b"}}, {forty + "\r\n " + more + "\r\n", []string{forty + more}}, {forty + "\r\n " + more + "\r\n c\r\nd\r\n", []string{forty + more + "c", "d"}},
	} {
		got, ok := impl.Unfold(c.text)
		if !ok || !slices.Equal(got, c.want) || !checkUnfold(t, c.text) {
			t.Errorf("%q: %q %v", c.text, got, ok)
		}
	}
	for _, text := range []string{
		"a", "a\n", "a\r", "a\n\r", "\n", "\r", "\r\n\n", "\r\n\r", "a\r\nb", "a\r\n b\r\n", "a\r\n \r\n", "\r\n \r\n", "\r\n b\r\n", " \r\n \r\n", " a\r\n b\r\n", "a\nb\r\n", "a\rb\r\n", "\r\r\n", "\n\r\n", "a\r\n\r", "a\r\r\n", "a\n\r\n",
		forty, forty + "\r\n \r\n", forty + "b\r\n", forty[1:] + "\r\n b\r\n", forty + "\r\n " + more + "b\r\n", forty + "\r\n " + more[1:] + "\r\n c\r\n", forty + "\r\nb\r\n c\r\n", forty + "\r\n b\r\n c\r\n", forty + "\r\n b", forty + "\n b\r\n", forty + "\r\n\tb\r\n" + " c\r\n", forty + "\r\n " + more + "\r\n \r\n", forty + "c\r\n b\r\n", "\r\n " + forty + "\r\n",
	} {
		if got, ok := impl.Unfold(text); ok || len(got) != 0 {
			t.Errorf("%q: %q %v", text, got, ok)
		}
		checkUnfold(t, text)
	}
}

// All texts of some pieces that are empty, short, just full, too long, and one short of it, with a blank ahead and without.
func TestUnfoldOfAllSmall(t *testing.T) {
	var pieces []string
	for _, size := range []int{0, 1, 2, 39, 40, 41} {
		pieces = append(pieces, strings.Repeat("x", size)+"\r\n")
		if size > 0 {
			pieces = append(pieces, " "+strings.Repeat("x", size-1)+"\r\n")
		}
	}
	oks := 0
	allTexts(pieces, 4, func(text string) {
		if checkUnfold(t, text) {
			oks++
		}
	})
	allTexts([]string{"a", " ", "\r", "\n", "\r\n"}, 6, func(text string) { checkUnfold(t, text) })
	if oks < 1000 {
		t.Error(oks)
	}
}

// All that differs by a byte from what is folded.
func TestUnfoldNear(t *testing.T) {
	forty := "abcdefghijklmnopqrstuvwxyz0123456789ABCD"
	for _, text := range nearTexts(slowFold(forty+forty[:39]+"z") + slowFold("") + slowFold(forty+"y")) {
		checkUnfold(t, text)
	}
}

// Many lines are unfolded as they were, as long as IcalMax bytes have them.
func TestUnfoldOfAllSorts(t *testing.T) {
	rng := rand.New(rand.NewSource(62))
	oks, long := 0, 0
	for range 3000 {
		var lines []string
		text := ""
		for range rng.Intn([]int{4, 20, 60}[rng.Intn(3)]) {
			line := strings.NewReplacer("\r", "x", "\n", " ").Replace(someBytes(rng, rng.Intn(1+[]int{3, 45, 130, 600}[rng.Intn(4)]), []string{"", "ab ", "a"}[rng.Intn(3)]))
			if len(lines) > 0 {
				line = strings.TrimLeft(line, " ")
			}
			lines = append(lines, line)
			text += impl.Fold(line)
		}
		got, ok := impl.Unfold(text)
		if ok != (len(text) <= 4000) || ok && !slices.Equal(got, lines) || !ok && len(got) != 0 {
			t.Fatalf("%q: %q %v", lines, got, ok)
		}
		if checkUnfold(t, text) {
			oks++
		} else {
			long++
		}
	}
	if oks < 1000 || long < 50 {
		t.Error(oks, long)
	}
}

// A line has 600 bytes at most, and a text IcalMax.
func TestUnfoldLimits(t *testing.T) {
	pieces := func(size int) string {
		text, line := "", strings.Repeat("x", size)
		for line != "" {
			n := min(len(line), 40)
			if text != "" {
				n = min(len(line), 39)
				text += " "
			}
			text, line = text+line[:n]+"\r\n", line[n:]
		}
		return text
	}
	for size := 590; size < 660; size++ {
		if got, ok := impl.Unfold(pieces(size)); ok != (size <= 600) || ok && len(got[0]) != size {
			t.Errorf("a line of %d: %v", size, ok)
		}
		if got, ok := impl.Unfold("a\r\n" + pieces(size) + "b\r\n"); ok != (size <= 600) || ok != (len(got) == 3) {
			t.Errorf("a line of %d between others: %v", size, ok)
		}
	}
	for _, line := range []string{"", "a", strings.Repeat("a", 38), strings.Repeat("a", 40), strings.Repeat("a", 600)} {
		folded := impl.Fold(line)
		text := strings.Repeat(folded, 3960/len(folded))
		for more := range 41 {
			long := text + impl.Fold(strings.Repeat("b", more))
			if checkUnfold(t, long) != (len(long) <= 4000) {
				t.Errorf("%d bytes", len(long))
			}
		}
		for len(text) < 5000 {
			if checkUnfold(t, text) != (len(text) <= 4000) {
				t.Errorf("%d bytes", len(text))
			}
			text += folded
		}
	}
	checkUnfold(t, strings.Repeat("a\r\n", 100000))
}

// checkProp asks of a property whether it is ok, writes it, and reads it.
func checkProp(t *testing.T, p impl.Prop) bool {
	t.Helper()
	want := slowPropOk(p)
	if got := impl.PropOk(p); got != want {
		t.Fatalf("%+v: ok %v", p, got)
	}
	put := impl.PropPut(p)
	if put != slowPropPut(p) {
		t.Fatalf("%+v is written %q", p, put)
	}
	back, ok := impl.PropGet(put)
	if ok != want || ok && !sameProp(back, p) {
		t.Fatalf("%+v is read back %+v %v", p, back, ok)
	}
	return want
}

// checkPropGet reads a line as a property, and writes that.
func checkPropGet(t *testing.T, line string) bool {
	t.Helper()
	want, is := slowPropGet(line)
	got, ok := impl.PropGet(line)
	if ok != is || !sameProp(got, want) {
		t.Fatalf("%q is read %+v %v, not %+v %v", line, got, ok, want, is)
	}
	if ok && (!impl.PropOk(got) || impl.PropPut(got) != line) {
		t.Fatalf("%q is written %q", line, impl.PropPut(got))
	}
	return ok
}

func TestPropExamples(t *testing.T) {
	for _, c := range []struct {
		line string
		want impl.Prop
	}{
		{"A:", impl.Prop{Name: "A"}}, {"-:", impl.Prop{Name: "-"}}, {"A::", impl.Prop{Name: "A", Value: ":"}}, {"A:b", impl.Prop{Name: "A", Value: "b"}}, {"A:;B=c:d", impl.Prop{Name: "A", Value: ";B=c:d"}}, {"A: b ", impl.Prop{Name: "A", Value: " b "}}, {"A:\x00\xff,", impl.Prop{Name: "A", Value: "\x00\xff,"}},
		{"A;B=:", impl.Prop{Name: "A", Params: []impl.Param{{Name: "B"}}}}, {"A;B=c:d", impl.Prop{Name: "A", Params: []impl.Param{{Name: "B", Value: "c"}}, Value: "d"}}, {"A;B=c;B=c:d=e", impl.Prop{Name: "A", Params: []impl.Param{{Name: "B", Value: "c"}, {Name: "B", Value: "c"}}, Value: "d=e"}},
		{"A;Z-=1;A=2;-=!~:", impl.Prop{Name: "A", Params: []impl.Param{{Name: "Z-", Value: "1"}, {Name: "A", Value: "2"}, {Name: "-", Value: "!~"}}}},
		{"ABCDEFGHIJKLMNOP:x", impl.Prop{Name: "ABCDEFGHIJKLMNOP", Value: "x"}}, {`A;B="c,d":e`, impl.Prop{Name: "A", Params: []impl.Param{{Name: "B", Value: `"c,d"`}}, Value: "e"}},
	} {
		got, ok := impl.PropGet(c.line)
		if !ok || !sameProp(got, c.want) || impl.PropPut(c.want) != c.line || !impl.PropOk(c.want) {
			t.Errorf("%q: %+v %v, written %q", c.line, got, ok, impl.PropPut(c.want))
		}
		checkPropGet(t, c.line)
	}
	for _, line := range []string{
		"", "A", ":", ":b", "a:b", "A b:c", " A:b", "A :b", "1:b", "Ab:c", "A_B:c", "É:c", "@:", "[:", "ABCDEFGHIJKLMNOPQ:x", "A;:b", "A;B:c", "A;=:b", "A;=c:d", "A;b=c:d", "A;B=c", "A;B=c=d:e", "A;B=c;:d", "A;B=c;D:e", "A;;B=c:d", ";B=c:d", "A;B=c d:e", "A;B=\x7f:e", "A;B=é:e", "A;B=\t:e",
		"A;B=1;C=2;D=3;E=4:x", "A;ABCDEFGHIJKLMNOPQ=1:x", "A;B=123456789012345678901:x", "A:b\n", "A:b\r\n", "\nA:b", "A:\r", "A;B=\n:c",
	} {
		if got, ok := impl.PropGet(line); ok || !sameProp(got, impl.Prop{}) {
			t.Errorf("%q: %+v %v", line, got, ok)
		}
		checkPropGet(t, line)
	}
}

// Each byte, alone and among others, in each place of a property.
func TestPropBytes(t *testing.T) {
	for b := range 256 {
		one := string([]byte{byte(b)})
		letter := b >= 'A' && b <= 'Z' || b == '-'
		inParam := b >= 33 && b <= 126 && b != ';' && b != ':' && b != '='
		inValue := b != 10 && b != 13
		for _, text := range []string{one, "A" + one, one + "A", strings.Repeat("A", 15) + one, "AA" + one + "AA"} {
			checks := []bool{
				checkProp(t, impl.Prop{Name: text}) == letter,
				checkProp(t, impl.Prop{Name: "A", Params: []impl.Param{{Name: text}}}) == letter,
				checkProp(t, impl.Prop{Name: "A", Params: []impl.Param{{Name: "B"}, {Name: "B"}, {Name: text}}}) == letter,
				checkProp(t, impl.Prop{Name: "A", Params: []impl.Param{{Name: "B", Value: text}}}) == inParam,
				checkProp(t, impl.Prop{Name: "A", Params: []impl.Param{{Name: "B", Value: text}, {Name: "C"}}}) == inParam,
				checkProp(t, impl.Prop{Name: "A", Params: []impl.Param{{Name: "B"}, {Name: "C"}, {Name: "D", Value: text}}}) == inParam,
				checkProp(t, impl.Prop{Name: "A", Value: text}) == inValue,
			}
			if at := slices.Index(checks, false); at >= 0 {
				t.Errorf("byte %d, %q, check %d", b, text, at)
			}
		}
	}
}

func TestPropSizes(t *testing.T) {
	for size := range 40 {
		name, value := strings.Repeat("Z", size), strings.Repeat("~", size)
		oks := []bool{
			checkProp(t, impl.Prop{Name: name}), checkProp(t, impl.Prop{Name: "A", Params: []impl.Param{{Name: name}}}),
			checkProp(t, impl.Prop{Name: "A", Params: []impl.Param{{Name: "B"}, {Name: "C"}, {Name: name}}}),
			checkProp(t, impl.Prop{Name: "A", Params: []impl.Param{{Name: "B", Value: value}}}),
			checkProp(t, impl.Prop{Name: "A", Params: make([]impl.Param, size)}),
			checkProp(t, impl.Prop{Name: "A", Params: slices.Repeat([]impl.Param{{Name: "B", Value: "c"}}, size)}),
		}
		named := size >= 1 && size <= 16
		if !slices.Equal(oks, []bool{named, named, named, size <= 20, size == 0, size <= 3}) {
			t.Errorf("%d: %v", size, oks)
		}
	}
	full := impl.Param{Name: strings.Repeat("N", 16), Value: strings.Repeat("v", 20)}
	for size := range 620 {
		for _, sign := range []string{"v", ":", ";", "=", ",", " ", "\xe9"} {
			p := impl.Prop{Name: "A", Value: strings.Repeat(sign, size)}
			q := impl.Prop{Name: full.Name, Params: []impl.Param{full, full, full}, Value: p.Value}
			if checkProp(t, p) != (size <= 400) || checkProp(t, q) != (size <= 400) {
				t.Errorf("%d of %q", size, sign)
			}
			checkPropGet(t, "A:"+p.Value)
		}
	}
	for _, size := range []int{1000, 100000} {
		long := strings.Repeat("A", size)
		checkProp(t, impl.Prop{Name: long})
		checkProp(t, impl.Prop{Name: "A", Value: long})
		checkProp(t, impl.Prop{Name: "A", Params: []impl.Param{{Name: "A", Value: long}}})
		checkProp(t, impl.Prop{Name: "A", Params: make([]impl.Param, size)})
		for _, line := range []string{long, "A:" + long, "A" + strings.Repeat(";", size) + ":", "A" + strings.Repeat(";B=c", size) + ":", strings.Repeat(":", size), "A;B" + strings.Repeat("=", size) + ":"} {
			checkPropGet(t, line)
		}
	}
}

func TestPropsOfAllSorts(t *testing.T) {
	rng := rand.New(rand.NewSource(64))
	for range 5000 {
		p := someProp(rng)
		if !checkProp(t, p) {
			t.Fatalf("%+v is not ok", p)
		}
		line := []byte(impl.PropPut(p))
		checkPropGet(t, string(line))
		line[rng.Intn(min(len(line), 100))] = "A-;:= a\n\x7f"[rng.Intn(9)]
		checkPropGet(t, string(line))
	}
	allTexts([]string{"A", "b", ";", "=", ":", " "}, 6, func(line string) { checkPropGet(t, line) })
	for _, line := range []string{"A:b", "DTSTART;TZID=north:20", "A-;B=1;C=;D=!:x:y;z=1"} {
		for _, near := range nearTexts(line) {
			checkPropGet(t, near)
		}
	}
}

// teaCalendar is an event with a rule, an Out and an Over, and its text by hand.
func teaCalendar(t *testing.T) (impl.Event, string) {
	e := tea(t)
	e.Title, e.Rule = "tea, and; more", impl.Rule{Freq: impl.FreqWeek, Every: 2, Count: 40, Days: []impl.By{{Day: 0}, {Day: 1}, {Day: 4}, {Day: 5}}}
	e.Outs = []int{mustTime(t, "2026-03-28T09:00")}
	e.Overs = []impl.Over{{At: mustTime(t, "2026-04-06T09:00"), Start: mustTime(t, "2026-04-07T10:05"), Long: 45, Title: `late\er`}}
	return e, "BEGIN:VEVENT\r\nUID:tea\r\nSUMMARY:tea\\, and\\; more\r\nDTSTART;TZID=north:20260327T090000\r\nDURATION:PT30M\r\n" +
		"RRULE:FREQ=WEEKLY;INTERVAL=2;COUNT=40;BY\r\n DAY=MO,TU,FR,SA\r\nEXDATE;TZID=north:20260328T090000\r\nEND:VEVENT\r\n" +
		"BEGIN:VEVENT\r\nUID:tea\r\nRECURRENCE-ID;TZID=north:20260406T090000\r\nSUMMARY:late\\\\er\r\nDTSTART;TZID=north:20260407T100500\r\nDURATION:PT45M\r\nEND:VEVENT\r\n"
}

func TestIcalExamples(t *testing.T) {
	whole, text := teaCalendar(t)
	once := impl.Event{Id: "0", Zone: "z9", Start: mustTime(t, "0001-01-03T00:00"), Long: 20160}
	for _, c := range []struct {
		e    impl.Event
		text string
	}{
		{whole, text},
		{impl.Event{Id: "abcdefgh", Title: "    ", Zone: "abcdefgh", Start: 1000000, Long: 7, Overs: []impl.Over{{At: 1000000, Start: 2000000, Long: 8, Title: ";;;;;;;;,,,,,,,,"}}},
			"BEGIN:VEVENT\r\nUID:abcdefgh\r\nSUMMARY:    \r\nDTSTART;TZID=abcdefgh:00021126T104000\r\nDURATION:PT7M\r\nEND:VEVENT\r\n" +
				"BEGIN:VEVENT\r\nUID:abcdefgh\r\nRECURRENCE-ID;TZID=abcdefgh:00021126T104\r\n 000\r\nSUMMARY:" + `\;\;\;\;\;\;\;\;\,\,\,\,\,\,\,\,` + "\r\nDTSTART;TZID=abcdefgh:00041020T212000\r\nDURATION:PT8M\r\nEND:VEVENT\r\n"},
		{once, "BEGIN:VEVENT\r\nUID:0\r\nSUMMARY:\r\nDTSTART;TZID=z9:00010103T000000\r\nDURATION:PT20160M\r\nEND:VEVENT\r\n"},
		{impl.Event{Id: "b", Title: " n ", Zone: "utc", Start: mustTime(t, "9999-12-15T23:59"), Long: 1, Outs: []int{mustTime(t, "9999-12-15T23:59")}},
			"BEGIN:VEVENT\r\nUID:b\r\nSUMMARY: n \r\nDTSTART;TZID=utc:99991215T235900\r\nDURATION:PT1M\r\nEXDATE;TZID=utc:99991215T235900\r\nEND:VEVENT\r\n"},
	} {
		got, ok := impl.IcalGet(c.text)
		if impl.IcalPut(c.e) != c.text || !ok || !sameEvent(got, c.e) {
			t.Errorf("%s: %q, and back %s %v", eventAt(c.e), impl.IcalPut(c.e), eventAt(got), ok)
		}
	}
}

// checkIcal writes an event, and reads it.
func checkIcal(t *testing.T, e impl.Event) string {
	t.Helper()
	text := impl.IcalPut(e)
	if text != slowIcalPut(e) {
		t.Fatalf("%s is written %q", eventAt(e), text)
	}
	back, ok := impl.IcalGet(text)
	if ok != (text != "") || ok && !sameEvent(back, e) || !ok && !isNothing(back) {
		t.Fatalf("%s is read back %s %v", eventAt(e), eventAt(back), ok)
	}
	return text
}

// checkIcalGet reads a text as an event, and writes that.
func checkIcalGet(t *testing.T, text string) bool {
	t.Helper()
	want, is := slowIcalGet(text)
	got, ok := impl.IcalGet(text)
	if ok != is || !sameEvent(got, want) {
		t.Fatalf("%q is read %s %v, not %v", text, eventAt(got), ok, is)
	}
	if ok && impl.IcalPut(got) != text {
		t.Fatalf("%q is written %q", text, impl.IcalPut(got))
	}
	return ok
}

func count(lines []string, line string) int {
	n := 0
	for _, one := range lines {
		if one == line {
			n++
		}
	}
	return n
}

// Events of all sorts, whose titles have signs that are written otherwise, in zones that are there or not.
func TestIcalOfAllSorts(t *testing.T) {
	ruled, changed := 0, 0
	someEvents(t, 65, 400, func(rng *rand.Rand, zones []impl.Zone, e impl.Event, times []int) {
		for _, one := range []impl.Event{e, signed(rng, e), signed(rng, e)} {
			text := checkIcal(t, one)
			lines, ok := impl.Unfold(text)
			if parts := len(one.Overs) + 1; !ok || count(lines, "BEGIN:VEVENT") != parts || count(lines, "END:VEVENT") != parts || !slices.Equal(lines, icalLines(one)) {
				t.Fatalf("%s: %q", eventAt(one), lines)
			}
			if !hasNoRule(one) {
				ruled++
			}
			if len(one.Outs) > 0 && len(one.Overs) > 1 {
				changed++
			}
		}
	})
	if ruled < 500 || changed < 100 {
		t.Error(ruled, changed)
	}
}

// The longest that can be: all lists full, all titles of signs that are written otherwise.
func TestIcalOfFull(t *testing.T) {
	e := tea(t)
	e.Id, e.Zone, e.Title, e.Long = "abcdefgh", "abcdefgh", strings.Repeat(";", 16), 20160
	for i := range 12 {
		at := e.Start + i*dayMinutes
		if i%2 == 0 {
			e.Outs = append(e.Outs, at)
		} else {
			e.Overs = append(e.Overs, impl.Over{At: at, Start: lastBeginning, Long: 20160, Title: strings.Repeat(`\`, 16)})
		}
	}
	text := checkIcal(t, e)
	if _, ok := impl.IcalGet(text); !ok || len(text) > 4000 {
		t.Errorf("%d bytes: %v", len(text), ok)
	}
	rule := impl.Rule{Freq: impl.FreqYear, Every: 100, Until: impl.DayMax, Dates: []int{-31, -30, -29, -28, -27, -26, -25, -24}, Places: []int{-366, -365, -364, -363, -362, -361, -360, -359}, Week: 6}
	for day := range 8 {
		rule.Days = append(rule.Days, impl.By{Num: -53 + day/7, Day: min(day, 6)})
	}
	long := tea(t)
	long.Rule = rule
	if text := checkIcal(t, long); len(text) < 300 || !strings.Contains(text, "\r\nRRULE:FREQ=YEARLY;INTERVAL=100;UNTIL=999\r\n 9-12-31;BYDAY=-53MO,-53TU,") {
		t.Errorf("%q", text)
	}
}

// Events that could not be are not written; only their zone need not be there.
func TestIcalOfWild(t *testing.T) {
	oks := 0
	for _, e := range wildEvents(t) {
		if text := checkIcal(t, e); (text != "") != slowEventOk(named(e.Zone), e) {
			t.Fatalf("%s: %q", eventAt(e), text)
		} else if text != "" {
			oks++
		}
	}
	for _, zone := range []string{"", "a", "0", "abcdefgh", "abcdefghi", "North", "a b", "a:b", "a;b", "é", "nowhere"} {
		e, _ := teaCalendar(t)
		e.Zone = zone
		if text := checkIcal(t, e); (text != "") != slowNameOk(zone) {
			t.Errorf("zone %q: %q", zone, text)
		}
	}
	for _, r := range wildRules() {
		e := tea(t)
		e.Rule = r
		if text := checkIcal(t, e); (text != "") != (slowRuleOk(r) || hasNoRule(e)) {
			t.Fatalf("%+v: %q", r, text)
		}
	}
	for _, title := range signTitles {
		e, _ := teaCalendar(t)
		e.Title = title
		for i := range e.Overs {
			e.Overs[i].Title = title + "'"
		}
		if text := checkIcal(t, e); (text != "") != (len(title) < 16) {
			t.Errorf("title %q: %q", title, text)
		}
	}
	if oks < 10 {
		t.Error(oks)
	}
}

// All that differs by a byte from what is written.
func TestIcalNear(t *testing.T) {
	_, text := teaCalendar(t)
	e := impl.Event{Id: "b", Title: "a,", Zone: "z", Start: mustTime(t, "2026-02-28T23:59"), Long: 20160}
	oks := 0
	for _, text := range append(nearTexts(text), nearTexts(impl.IcalPut(e))...) {
		if checkIcalGet(t, text) {
			oks++
		}
	}
	if oks < 500 {
		t.Error(oks)
	}
}

// Lines that are missing, there twice, in another order, or those of another event.
func TestIcalLines(t *testing.T) {
	e, _ := teaCalendar(t)
	e.Outs = append(e.Outs, mustTime(t, "2026-04-07T09:00"))
	e.Overs = append(e.Overs, impl.Over{At: mustTime(t, "2026-04-10T09:00"), Start: mustTime(t, "2026-04-10T09:00"), Long: 45, Title: `late\er`})
	lines, oks := icalLines(e), 0
	check := func(list []string) {
		t.Helper()
		if checkIcalGet(t, slowFolds(list)) {
			oks++
		}
	}
	check(lines)
	others := append(slices.Clone(lines), "", "BEGIN:VCALENDAR", "END:VCALENDAR", "UID:other", "UID:", "UID:Tea", "UID;X=1:tea", "SUMMARY:x,y", "SUMMARY:x\\", "SUMMARY:"+strings.Repeat("x", 17), "SUMMARY;X=1:tea",
		"DTSTART;TZID=south:20260327T090000", "DTSTART;TZID=north:20260327T090001", "DTSTART;TZID=north:20260327T0900", "DTSTART:20260327T090000", "DTSTART;TZID=north;TZID=north:20260327T090000", "DTSTART;X=north:20260327T090000", "DTSTART;TZID=north:20260230T090000", "DTSTART;TZID=north:20260327T240000", "DTSTART;TZID=North:20260327T090000", "DTSTART;TZID=:20260327T090000",
		"DURATION:PT0M", "DURATION:PT20161M", "DURATION:PT030M", "DURATION:PT30H", "DURATION:30M", "DURATION:PT-30M", "DURATION:PT+30M", "DURATION:PTM", "DURATION:PT30", "DURATION;X=1:PT30M",
		"RRULE:", "RRULE:FREQ=DAILY;INTERVAL=1", "RRULE:FREQ=HOURLY", "RRULE:FREQ=YEARLY", "RRULE;X=1:FREQ=DAILY", "EXDATE;TZID=south:20260328T090000", "EXDATE;TZID=north:20260329T090000", "EXDATE;TZID=north:20260406T090000", "EXDATE:20260328T090000",
		"RECURRENCE-ID;TZID=south:20260406T090000", "RECURRENCE-ID;TZID=north:20260408T090000", "RECURRENCE-ID;TZID=north:20260328T090000", "RECURRENCE-ID:20260406T090000", "X:y", "begin:VEVENT", "BEGIN:vevent", "BEGIN;X=1:VEVENT", "END;X=1:VEVENT", "END:")
	for i := range lines {
		check(slices.Delete(slices.Clone(lines), i, i+1))
		check(lines[:i])
		check(lines[i:])
		check(append(slices.Clone(lines[i:]), lines[:i]...))
		for k := range lines {
			swapped := slices.Clone(lines)
			swapped[i], swapped[k] = swapped[k], swapped[i]
			check(swapped)
		}
		for _, other := range others {
			check(slices.Replace(slices.Clone(lines), i, i+1, other))
			check(slices.Insert(slices.Clone(lines), i, other))
			check(slices.Insert(slices.Clone(lines), i+1, other))
		}
	}
	for _, list := range [][]string{nil, {""}, {"BEGIN:VEVENT"}, {"BEGIN:VEVENT", "END:VEVENT"}, {"END:VEVENT"}, append(slices.Clone(lines), lines...), append(slices.Clone(lines[9:]), lines[:9]...)} {
		check(list)
	}
	if oks < 100 {
		t.Error(oks)
	}
}

// Neither texts of IcalMax bytes and more, nor those that are folded otherwise, are read.
func TestIcalLimits(t *testing.T) {
	_, text := teaCalendar(t)
	for _, size := range []int{3999, 4000, 4001, 5000, 100000} {
		for _, more := range []string{text, "\r\n", "x", "EXDATE;TZID=north:20260328T090000\r\n", "BEGIN:VEVENT\r\n"} {
			long := text + strings.Repeat(more, (size-len(text))/len(more))
			checkIcalGet(t, long)
			checkIcalGet(t, long+strings.Repeat("x", size-len(long)))
		}
		checkIcalGet(t, strings.Repeat("x", size))
	}
	for _, other := range []string{
		"", " " + text, text + " ", text + "\r\n", "\r\n" + text, strings.ReplaceAll(text, "\r\n", "\n"), strings.ReplaceAll(text, "\r\n ", ""), strings.ReplaceAll(text, "BY\r\n DAY", "BYD\r\n AY"), strings.ReplaceAll(text, "BY\r\n DAY", "B\r\n YDAY"), strings.ReplaceAll(text, "UID:tea", "UID:t\r\n ea"),
		strings.ReplaceAll(text, "BEGIN", "begin"), strings.ReplaceAll(text, "north", "North"), strings.Replace(text, "north", "south", 1), strings.Replace(text, "UID:tea", "UID:two", 1), strings.ReplaceAll(text, "\\,", ","), text[:len(text)-1], text[:len(text)-2], text[1:],
	} {
		if checkIcalGet(t, other) {
			t.Errorf("%q", other)
		}
	}
	if all := strings.ReplaceAll(text, "north", "south"); !checkIcalGet(t, all) {
		t.Errorf("%q", all)
	}
	if all := strings.ReplaceAll(text, "UID:tea", "UID:two"); !checkIcalGet(t, all) {
		t.Errorf("%q", all)
	}
}
