package tests

import (
	"math"
	"math/rand"
	"slices"
	"strconv"
	"strings"
	"testing"

	"loop.example/g00985/impl"
)

// insText is an instruction with its text.
type insText struct {
	ins  impl.Ins
	text string
}

// insTexts has every operation, each mentioned field with a number of its own
// where the document allows that.
func insTexts() []insText {
	return []insText{
		{impl.Ins{Op: impl.InNop}, "nop"},
		{impl.Ins{Op: impl.InSet, A: 3, B: 1250}, "set 3 1250"},
		{impl.Ins{Op: impl.InMove, A: 1, B: 2}, "move 1 2"},
		{impl.Ins{Op: impl.InAdd, A: 1, B: 2, C: 3}, "add 1 2 3"},
		{impl.Ins{Op: impl.InSub, A: 3, B: 1, C: 2}, "sub 3 1 2"},
		{impl.Ins{Op: impl.InMul, A: 2, B: 3, C: 0}, "mul 2 3 0"},
		{impl.Ins{Op: impl.InXor, A: 0, B: 3, C: 1}, "xor 0 3 1"},
		{impl.Ins{Op: impl.InLess, A: 3, B: 0, C: 2}, "less 3 0 2"},
		{impl.Ins{Op: impl.InSelf, A: 2}, "self 2"},
		{impl.Ins{Op: impl.InPick, A: 2, B: 1, C: 3}, "pick 2 1 3"},
		{impl.Ins{Op: impl.InZero, A: 2, B: 31}, "zero 2 31"},
		{impl.Ins{Op: impl.InJump, B: 10}, "jump 10"},
		{impl.Ins{Op: impl.InHalt}, "halt"},
		{impl.Ins{Op: impl.InLoad, A: 3, B: 2}, "load 3 2"},
		{impl.Ins{Op: impl.InStore, A: 0, B: 3}, "store 0 3"},
		{impl.Ins{Op: impl.InBump, A: 1, B: 0}, "bump 1 0"},
		{impl.Ins{Op: impl.InBarrier}, "barrier"},
	}
}

// doublingLines is the text of doubling.
func doublingLines() []string {
	return []string{"self 0", "set 1 3", "less 2 0 1", "zero 2 6", "add 0 0 1", "jump 7", "add 0 0 0", "set 3 9"}
}

// sharingLines is the text of sharing.
func sharingLines() []string {
	return []string{"self 0", "store 0 0", "barrier", "load 1 2", "zero 1 6", "bump 2 0", "halt", "jump 0"}
}

// textOf returns the text that the document requires of a valid instruction.
func textOf(i impl.Ins) string {
	fact := insFacts()[i.Op]
	text := fact.name
	for place, value := range []int{i.A, i.B, i.C} {
		if fact.fields[place] != '-' {
			text += " " + strconv.Itoa(value)
		}
	}
	return text
}

// textsOf returns the texts of all instructions of a program.
func textsOf(p []impl.Ins) []string {
	lines := []string{}
	for _, i := range p {
		lines = append(lines, textOf(i))
	}
	return lines
}

func checkText(t *testing.T, i impl.Ins, want string) {
	t.Helper()
	if got := impl.FormatIns(i); got != want {
		t.Errorf("FormatIns(%v) = %q, not %q", i, got, want)
	}
}

func checkParsed(t *testing.T, line string, want impl.Ins) {
	t.Helper()
	if got, ok := impl.ParseIns(line); !ok || got != want {
		t.Errorf("ParseIns(%q) = %v, %v, not %v", line, got, ok, want)
	}
}

func checkNotParsed(t *testing.T, line string) {
	t.Helper()
	if got, ok := impl.ParseIns(line); ok || got != (impl.Ins{}) {
		t.Errorf("ParseIns(%q) = %v, %v", line, got, ok)
	}
}

func checkLines(t *testing.T, p []impl.Ins, want []string) {
	t.Helper()
	if got, ok := impl.FormatProgram(p); !ok || !slices.Equal(got, want) {
		t.Errorf("FormatProgram(%v) = %q, %v, not %q", p, got, ok, want)
	}
}

func checkNoLines(t *testing.T, p []impl.Ins) {
	t.Helper()
	if got, ok := impl.FormatProgram(p); ok || len(got) != 0 {
		t.Errorf("FormatProgram(%v) = %q, %v", p, got, ok)
	}
}

func checkProgram(t *testing.T, lines []string, want []impl.Ins) {
	t.Helper()
	if got, ok := impl.ParseProgram(lines); !ok || !slices.Equal(got, want) {
		t.Errorf("ParseProgram(%q) = %v, %v, not %v", lines, got, ok, want)
	}
}

func checkNoProgram(t *testing.T, lines []string) {
	t.Helper()
	if got, ok := impl.ParseProgram(lines); ok || len(got) != 0 {
		t.Errorf("ParseProgram(%q) = %v, %v", lines, got, ok)
	}
}

func TestEachOperationAsText(t *testing.T) {
	for op, c := range insTexts() {
		if c.ins.Op != op {
			t.Errorf("the operation %d is missing", op)
		}
		checkText(t, c.ins, c.text)
		checkParsed(t, c.text, c.ins)
	}
}

// Promise 6, for one instruction: every operation is tried with all
// combinations of values at the edges.
func TestInsTextOfAllFields(t *testing.T) {
	values := fieldValues(32)
	for _, fact := range insFacts() {
		for _, a := range values {
			for _, b := range values {
				for _, c := range values {
					i := impl.Ins{Op: fact.op, A: a, B: b, C: c}
					if fitsField(fact.fields[0], a, 32) && fitsField(fact.fields[1], b, 32) && fitsField(fact.fields[2], c, 32) {
						checkText(t, i, textOf(i))
						checkParsed(t, textOf(i), i)
						continue
					}
					checkText(t, i, "")
					// Only a field that is not written can be wrong in a text that is right.
					if got, ok := impl.ParseIns(textOf(i)); ok && got == i {
						t.Errorf("ParseIns(%q) returns %v", textOf(i), i)
					}
				}
			}
		}
	}
}

func TestInsTextOfWords(t *testing.T) {
	for b := range 65536 {
		i := impl.Ins{Op: impl.InSet, A: b % 4, B: b}
		text := "set " + strconv.Itoa(b%4) + " " + strconv.Itoa(b)
		checkText(t, i, text)
		checkParsed(t, text, i)
	}
	for _, b := range notWords() {
		checkText(t, impl.Ins{Op: impl.InSet, A: 1, B: b}, "")
		checkNotParsed(t, "set 1 "+strconv.Itoa(b))
	}
}

// One instruction has no program: every target of a program of MaxCode
// instructions is accepted.
func TestInsTextOfTargets(t *testing.T) {
	for b := -3; b <= 70; b++ {
		for a := range 4 {
			zero := impl.Ins{Op: impl.InZero, A: a, B: b}
			text := "zero " + strconv.Itoa(a) + " " + strconv.Itoa(b)
			if b >= 0 && b <= 32 {
				checkText(t, zero, text)
				checkParsed(t, text, zero)
			} else {
				checkText(t, zero, "")
				checkNotParsed(t, text)
			}
		}
		jump := impl.Ins{Op: impl.InJump, B: b}
		text := "jump " + strconv.Itoa(b)
		if b >= 0 && b <= 32 {
			checkText(t, jump, text)
			checkParsed(t, text, jump)
		} else {
			checkText(t, jump, "")
			checkNotParsed(t, text)
		}
	}
}

func TestInsTextOfNoRegister(t *testing.T) {
	for _, fact := range insFacts() {
		for place, letter := range fact.fields {
			if letter != 'r' {
				continue
			}
			for _, reg := range notRegs() {
				fields := [3]int{}
				fields[place] = reg
				i := impl.Ins{Op: fact.op, A: fields[0], B: fields[1], C: fields[2]}
				checkText(t, i, "")
				checkNotParsed(t, textOf(i))
			}
		}
	}
}

func TestFormatInsOfFieldsThatMustBeZero(t *testing.T) {
	for _, c := range insTexts() {
		fields := insFacts()[c.ins.Op].fields
		for _, bad := range []int{math.MinInt, -1, 1, 2, 1 << 32, math.MaxInt} {
			i := c.ins
			for place, field := range []*int{&i.A, &i.B, &i.C} {
				if fields[place] == '-' {
					*field = bad
					checkText(t, i, "")
					*field = 0
				}
			}
			checkText(t, i, c.text)
		}
	}
}

func TestFormatInsOfNoOperation(t *testing.T) {
	for _, bad := range notOps() {
		checkText(t, impl.Ins{Op: bad}, "")
		checkText(t, impl.Ins{Op: bad, A: 1, B: 2, C: 3}, "")
	}
}

func TestParseInsWithSpaces(t *testing.T) {
	for _, c := range insTexts() {
		words := strings.Split(c.text, " ")
		for _, gap := range []string{" ", "  ", "     "} {
			text := strings.Join(words, gap)
			for _, line := range []string{text, gap + text, text + gap, gap + text + gap} {
				checkParsed(t, line, c.ins)
			}
		}
	}
	checkParsed(t, " add  1 2 3 ", impl.Ins{Op: impl.InAdd, A: 1, B: 2, C: 3})
	checkNotParsed(t, "set 1 2 50")
	checkNotParsed(t, "set12")
	checkNotParsed(t, "set1 2")
	checkNotParsed(t, "set 12")
	checkNotParsed(t, "no p")
	checkNotParsed(t, "jump 1 0")
}

func TestParseInsOfNoFields(t *testing.T) {
	for _, n := range []int{0, 1, 2, 600, 601} {
		checkNotParsed(t, strings.Repeat(" ", n))
	}
}

// A line that SplitFields rejects is no instruction, whatever its fields are.
func TestParseInsOfRejectedLines(t *testing.T) {
	for _, c := range insTexts() {
		full := c.text + strings.Repeat(" ", impl.MaxLineLen-len(c.text))
		checkParsed(t, full, c.ins)
		checkNotParsed(t, full+" ")
		checkNotParsed(t, " "+full)
		for b := range 256 {
			if b < 32 || b > 126 {
				bad := string([]byte{byte(b)})
				for _, line := range []string{bad + c.text, c.text + bad, c.text + " " + bad, bad + " " + c.text, strings.Replace(c.text+" ", " ", bad, 1)} {
					checkNotParsed(t, line)
				}
			}
		}
		checkNotParsed(t, c.text+strings.Repeat(" 0", 30))
	}
}

func TestParseInsOfNoName(t *testing.T) {
	for _, c := range insTexts() {
		name, rest, _ := strings.Cut(c.text, " ")
		for _, bad := range []string{
			strings.ToUpper(name), strings.ToUpper(name[:1]) + name[1:], name[:len(name)-1] + strings.ToUpper(name[len(name)-1:]),
			name[:len(name)-1], name[1:], name[:1], name + "s", name + name, name + ",", "\"" + name + "\"", "." + name,
			"in" + name, "In" + name, strconv.Itoa(c.ins.Op), "", "-", "stop", "label", "div", "or", "and",
		} {
			checkNotParsed(t, bad+" "+rest)
			checkNotParsed(t, bad)
		}
		if rest != "" {
			checkNotParsed(t, rest)
			checkNotParsed(t, rest+" "+name)
		}
	}
}

func TestParseInsOfOtherNumbersOfFields(t *testing.T) {
	for _, fact := range insFacts() {
		mentioned := 3 - strings.Count(fact.fields, "-")
		for _, number := range []string{"0", "1"} {
			for count := range 24 {
				line := fact.name + strings.Repeat(" "+number, count)
				if got, ok := impl.ParseIns(line); ok != (count == mentioned) || !ok && got != (impl.Ins{}) {
					t.Errorf("ParseIns(%q) = %v, %v", line, got, ok)
				}
			}
		}
	}
	checkNotParsed(t, "nop 0")
	checkNotParsed(t, "halt 0")
	checkNotParsed(t, "barrier 0 0 0")
	checkNotParsed(t, "jump 0 5")
	checkNotParsed(t, "self 1 0 0")
	checkNotParsed(t, "zero 1 2 0")
}

// Each field of each operation is replaced by texts that are no numbers as
// FormatInt writes them, or too large ones.
func TestParseInsOfNoNumbers(t *testing.T) {
	for _, c := range insTexts() {
		words := strings.Split(c.text, " ")
		for place := 1; place < len(words); place++ {
			number := words[place]
			for _, bad := range []string{
				"0" + number, "00" + number, "+" + number, "-" + number, "-0", "+0", "", "-", "+", "00", "01", "-1", "+1",
				number + ".", number + ".0", "0x" + number, "0b1", "0o1", number + "e0", "1_0", number + ",", "r" + number, "R" + number, "a", "#" + number,
				"65536", "65537", "131072", "1000000000", "1000000001", "4294967296", "4294967297",
				"9223372036854775807", "9223372036854775808", "18446744073709551616", "18446744073709551617", strings.Repeat("1", 300),
			} {
				changed := slices.Clone(words)
				changed[place] = bad
				checkNotParsed(t, strings.Join(changed, " "))
			}
		}
	}
}

// validTexts returns all instructions with words up to 40 or at the edges, by
// their texts.
func validTexts() map[string]impl.Ins {
	texts := map[string]impl.Ins{}
	for _, fact := range insFacts() {
		for a := range 4 {
			for b := range 41 {
				for c := range 4 {
					if fitsField(fact.fields[0], a, 32) && fitsField(fact.fields[1], b, 32) && fitsField(fact.fields[2], c, 32) {
						i := impl.Ins{Op: fact.op, A: a, B: b, C: c}
						texts[textOf(i)] = i
					}
				}
			}
		}
	}
	for a := range 4 {
		for _, b := range edgeWords() {
			i := impl.Ins{Op: impl.InSet, A: a, B: b}
			texts[textOf(i)] = i
		}
	}
	return texts
}

// A line is an instruction exactly if its fields are the text of one.
func TestParseInsOfAnyWords(t *testing.T) {
	texts := validTexts()
	words := []string{"", "0", "1", "2", "3", "4", "31", "32", "33", "40", "65535", "65536", "00", "-1", "+2", "Nop", "x"}
	for _, fact := range insFacts() {
		words = append(words, fact.name)
	}
	source := rand.New(rand.NewSource(6))
	found := 0
	for range 60000 {
		line := insFacts()[source.Intn(17)].name
		for range source.Intn(5) {
			line += " " + words[source.Intn(len(words))]
		}
		want, valid := texts[strings.Join(strings.Fields(line), " ")]
		if !valid {
			checkNotParsed(t, line)
			continue
		}
		found++
		checkParsed(t, line, want)
		checkText(t, want, strings.Join(strings.Fields(line), " "))
	}
	if found < 1000 {
		t.Errorf("only %d of the lines are instructions", found)
	}
}

func TestProgramTextExamples(t *testing.T) {
	checkLines(t, doubling(), doublingLines())
	checkProgram(t, doublingLines(), doubling())
	checkLines(t, sharing(), sharingLines())
	checkProgram(t, sharingLines(), sharing())
	all, lines := []impl.Ins{}, []string{}
	for _, c := range insTexts() {
		all, lines = append(all, c.ins), append(lines, c.text)
	}
	// The target 31 of the zero needs as many instructions.
	all = append(all, nops(15)...)
	lines = append(lines, slices.Repeat([]string{"nop"}, 15)...)
	checkLines(t, all, lines)
	checkProgram(t, lines, all)
}

func TestEmptyProgramText(t *testing.T) {
	for _, p := range [][]impl.Ins{nil, {}, nops(3)[:0]} {
		checkLines(t, p, nil)
	}
	for _, lines := range [][]string{nil, {}, doublingLines()[:0]} {
		checkProgram(t, lines, nil)
	}
}

// Promise 6: programs can be parsed from their text.
func TestProgramTextRoundTrip(t *testing.T) {
	for _, p := range validPrograms() {
		lines, ok := impl.FormatProgram(p)
		if !ok || !slices.Equal(lines, textsOf(p)) {
			t.Fatalf("FormatProgram(%v) = %q, %v", p, lines, ok)
		}
		checkProgram(t, lines, p)
		spaced := []string{}
		for _, line := range lines {
			spaced = append(spaced, "  "+strings.ReplaceAll(line, " ", "   ")+" ")
		}
		checkProgram(t, spaced, p)
	}
}

// A target may be the number of instructions, but not lie behind it, although
// the instruction alone has a text.
func TestProgramTextOfTargets(t *testing.T) {
	for _, op := range []int{impl.InZero, impl.InJump} {
		for size := 1; size <= 32; size++ {
			for _, place := range []int{0, size / 2, size - 1} {
				for b := range 34 {
					p := nops(size)
					p[place] = impl.Ins{Op: op, B: b}
					lines := textsOf(p)
					if b <= size {
						checkLines(t, p, lines)
						checkProgram(t, lines, p)
					} else {
						checkNoLines(t, p)
						checkNoProgram(t, lines)
					}
				}
			}
		}
	}
	checkProgram(t, []string{"self 0", "zero 0 2"}, []impl.Ins{{Op: impl.InSelf}, {Op: impl.InZero, B: 2}})
	checkNoProgram(t, []string{"self 0", "zero 0 3"})
	checkProgram(t, []string{"jump 1"}, []impl.Ins{{Op: impl.InJump, B: 1}})
	checkNoProgram(t, []string{"jump 2"})
}

func TestProgramTextOfSizes(t *testing.T) {
	for size := range 70 {
		for _, p := range [][]impl.Ins{nops(size), numbered(size)} {
			if size <= 32 {
				checkLines(t, p, textsOf(p))
				checkProgram(t, textsOf(p), p)
			} else {
				checkNoLines(t, p)
				checkNoProgram(t, textsOf(p))
			}
		}
	}
	for _, p := range longPrograms() {
		checkNoLines(t, p)
		checkNoProgram(t, textsOf(p))
	}
}

func TestFormatProgramOfInvalidPrograms(t *testing.T) {
	for _, p := range invalidPrograms() {
		checkNoLines(t, p)
	}
}

// One line that is no instruction is enough, wherever it is.
func TestParseProgramOfOneBadLine(t *testing.T) {
	for _, p := range [][]impl.Ins{nops(1), nops(2), doubling(), sharing(), numbered(32)} {
		for place := range p {
			for _, bad := range []string{"", " ", "nop 0", "Nop", "no", "set 0", "set 0 65536", "set 00 1", "add 1 2", "add 1 2 4", "add 1 2 3 0", "zero 0 33", "jump -1", "jump +1", "jump", "halt\n", "nop\tnop", "nop nop", "nop;", strings.Repeat(" ", 601), "nop" + strings.Repeat(" ", 598)} {
				lines := textsOf(p)
				lines[place] = bad
				checkNoProgram(t, lines)
			}
		}
	}
	checkNoProgram(t, []string{""})
	checkNoProgram(t, append(doublingLines(), ""))
	checkNoProgram(t, append([]string{""}, doublingLines()...))
	checkNoProgram(t, []string{strings.Join(doublingLines(), "\n")})
	checkNoProgram(t, slices.Repeat([]string{""}, 33))
}

// Neither the call nor a change of its result changes the program or its spare
// capacity.
func TestFormatProgramReturnsNewMemory(t *testing.T) {
	for _, original := range slices.Concat(validPrograms(), longPrograms(), [][]impl.Ins{{{Op: 17}}, {{}, {Op: impl.InJump, B: 3}}}) {
		p, whole := guarded(original)
		before := slices.Clone(whole)
		first, ok := impl.FormatProgram(p)
		second, _ := impl.FormatProgram(p)
		want := []string{}
		if ok {
			want = textsOf(original)
		}
		for place := range first[:cap(first)] {
			first[:cap(first)][place] = "x"
		}
		if !slices.Equal(whole, before) {
			t.Fatalf("FormatProgram(%v) changed its argument to %v", original, whole)
		}
		for place := range whole {
			whole[place] = impl.Ins{Op: 83}
		}
		if !slices.Equal(second, want) {
			t.Fatalf("FormatProgram(%v) = %q after a change of another result or of the argument", original, second)
		}
	}
}

func TestParseProgramReturnsNewMemory(t *testing.T) {
	for _, original := range slices.Concat(validPrograms(), longPrograms(), [][]impl.Ins{{{}, {Op: impl.InJump, B: 3}}}) {
		whole := slices.Concat(textsOf(original), slices.Repeat([]string{"halt"}, 40))
		lines := whole[:len(original)]
		before := slices.Clone(whole)
		first, ok := impl.ParseProgram(lines)
		second, _ := impl.ParseProgram(lines)
		want := []impl.Ins{}
		if ok {
			want = original
		}
		for place := range first[:cap(first)] {
			first[:cap(first)][place] = impl.Ins{Op: 82}
		}
		if !slices.Equal(whole, before) {
			t.Fatalf("ParseProgram(%q) changed its argument to %q", before, whole)
		}
		for place := range whole {
			whole[place] = "x"
		}
		if !slices.Equal(second, want) {
			t.Fatalf("ParseProgram(%q) = %v after a change of another result or of the argument", before, second)
		}
	}
}

// A line of another program is not remembered: each call starts anew.
func TestTextsAreNotKept(t *testing.T) {
	for range 3 {
		checkNoProgram(t, []string{"jump 2"})
		checkProgram(t, []string{"jump 2", "nop"}, []impl.Ins{{Op: impl.InJump, B: 2}, {}})
		checkNotParsed(t, "add 1 2 x")
		checkParsed(t, "nop", impl.Ins{})
		checkText(t, impl.Ins{Op: impl.InAdd, A: 4}, "")
		checkText(t, impl.Ins{}, "nop")
	}
}
