package tests

import (
	"math"
	"math/rand"
	"slices"
	"testing"

	"loop.example/g00985/impl"
)

// doubling is a program: threads below 3 add 3 to their number, all others
// double it.
func doubling() []impl.Ins {
	return []impl.Ins{
		{Op: impl.InSelf, A: 0},
		{Op: impl.InSet, A: 1, B: 3},
		{Op: impl.InLess, A: 2, B: 0, C: 1},
		{Op: impl.InZero, A: 2, B: 6},
		{Op: impl.InAdd, A: 0, B: 0, C: 1},
		{Op: impl.InJump, B: 7},
		{Op: impl.InAdd, A: 0, B: 0, C: 0},
		{Op: impl.InSet, A: 3, B: 9},
	}
}

// counting is a program with a loop: its threads count down from their number.
func counting() []impl.Ins {
	return []impl.Ins{
		{Op: impl.InSelf, A: 0},
		{Op: impl.InSet, A: 1, B: 1},
		{Op: impl.InZero, A: 0, B: 6},
		{Op: impl.InSub, A: 0, B: 0, C: 1},
		{Op: impl.InAdd, A: 2, B: 2, C: 1},
		{Op: impl.InJump, B: 2},
		{Op: impl.InMove, A: 3, B: 2},
	}
}

// sharing is a program with all operations that are not local.
func sharing() []impl.Ins {
	return []impl.Ins{
		{Op: impl.InSelf, A: 0},
		{Op: impl.InStore, A: 0, B: 0},
		{Op: impl.InBarrier},
		{Op: impl.InLoad, A: 1, B: 2},
		{Op: impl.InZero, A: 1, B: 6},
		{Op: impl.InBump, A: 2, B: 0},
		{Op: impl.InHalt},
		{Op: impl.InJump, B: 0},
	}
}

// nops returns a program of InNop alone.
func nops(size int) []impl.Ins {
	return make([]impl.Ins, size)
}

// numbered returns a valid program of size instructions that all differ.
func numbered(size int) []impl.Ins {
	p := nops(size)
	for place := range p {
		p[place] = impl.Ins{Op: impl.InSet, A: place % 4, B: place}
	}
	return p
}

// anyIns returns an instruction that is valid in a program of size
// instructions, with an Op up to last.
func anyIns(source *rand.Rand, size int, last int) impl.Ins {
	fact := insFacts()[source.Intn(last+1)]
	fields := [3]int{}
	for place, letter := range fact.fields {
		switch letter {
		case 'r':
			fields[place] = source.Intn(4)
		case 'w':
			fields[place] = source.Intn(4)
		case 't':
			fields[place] = source.Intn(size + 1)
		}
	}
	return impl.Ins{Op: fact.op, A: fields[0], B: fields[1], C: fields[2]}
}

// anyPrograms returns valid programs of all sizes, the same in each run.
func anyPrograms(last int) [][]impl.Ins {
	source := rand.New(rand.NewSource(5))
	list := [][]impl.Ins{}
	for n := range 33 * 8 {
		p := nops(n % 33)
		for place := range p {
			p[place] = anyIns(source, len(p), last)
		}
		list = append(list, p)
	}
	return list
}

// validPrograms returns programs with and without operations that are not
// local.
func validPrograms() [][]impl.Ins {
	list := [][]impl.Ins{nil, {}, doubling(), counting(), sharing(), nops(1), nops(31), nops(32), numbered(31), numbered(32)}
	list = append(list, anyPrograms(impl.InHalt)...)
	return append(list, anyPrograms(impl.InBarrier)...)
}

// brokenIns returns instructions that are valid in no program of size
// instructions.
func brokenIns(size int) []impl.Ins {
	list := []impl.Ins{
		{A: 1}, {B: 1}, {C: 1},
		{Op: impl.InSet, A: 4}, {Op: impl.InSet, A: -1}, {Op: impl.InSet, B: -1}, {Op: impl.InSet, B: 65536}, {Op: impl.InSet, C: 1},
		{Op: impl.InMove, B: 4}, {Op: impl.InAdd, C: 4}, {Op: impl.InPick, C: -1}, {Op: impl.InSelf, B: 1},
		{Op: impl.InZero, A: 4}, {Op: impl.InZero, B: -1}, {Op: impl.InZero, B: size + 1}, {Op: impl.InZero, C: 1},
		{Op: impl.InJump, A: 1}, {Op: impl.InJump, B: -1}, {Op: impl.InJump, B: size + 1}, {Op: impl.InJump, B: math.MaxInt},
		{Op: impl.InHalt, A: 1}, {Op: impl.InLoad, B: 4}, {Op: impl.InStore, C: 1}, {Op: impl.InBump, A: -1}, {Op: impl.InBarrier, A: 1},
	}
	for _, op := range notOps() {
		list = append(list, impl.Ins{Op: op})
	}
	return list
}

// brokenPrograms returns programs with one instruction that is not valid, at
// each place.
func brokenPrograms() [][]impl.Ins {
	list := [][]impl.Ins{}
	for _, p := range [][]impl.Ins{nops(1), nops(2), doubling(), sharing(), numbered(31), numbered(32)} {
		for place := range p {
			for _, i := range brokenIns(len(p)) {
				q := slices.Clone(p)
				q[place] = i
				list = append(list, q)
			}
		}
	}
	return list
}

// longPrograms returns programs of too many instructions.
func longPrograms() [][]impl.Ins {
	return [][]impl.Ins{nops(33), numbered(33), nops(34), nops(64), nops(65), nops(256), nops(257), nops(1000), nops(65537)}
}

// invalidPrograms returns programs for which ProgramOk is false.
func invalidPrograms() [][]impl.Ins {
	return append(brokenPrograms(), longPrograms()...)
}

// notPlaces returns numbers that are no place of an insertion into a program of
// size instructions.
func notPlaces(size int) []int {
	return []int{-1, -2, -32, -33, -1 << 32, math.MinInt, math.MinInt + 1, size + 1, size + 2, size + 32, 33, 64, 1 << 32, math.MaxInt - 1, math.MaxInt}
}

// isTransfer reports whether B of an instruction is a place in its program.
func isTransfer(i impl.Ins) bool {
	return slices.Contains([]int{10, 11}, i.Op)
}

// longer returns what the document requires of InsertNop: the instructions in
// order with one more between them, and each target behind the place moved.
func longer(p []impl.Ins, at int) []impl.Ins {
	q := []impl.Ins{}
	for place := range len(p) + 1 {
		if place == at {
			q = append(q, impl.Ins{})
		}
		if place == len(p) {
			break
		}
		i := p[place]
		if isTransfer(i) && i.B > at {
			i = impl.Ins{Op: i.Op, A: i.A, B: i.B + 1, C: i.C}
		}
		q = append(q, i)
	}
	return q
}

func checkInserted(t *testing.T, p []impl.Ins, at int, want []impl.Ins) {
	t.Helper()
	if got, ok := impl.InsertNop(p, at); !ok || !slices.Equal(got, want) {
		t.Errorf("InsertNop(%v, %d) = %v, %v, not %v", p, at, got, ok, want)
	}
}

func checkRejected(t *testing.T, p []impl.Ins, at int) {
	t.Helper()
	if got, ok := impl.InsertNop(p, at); ok || !slices.Equal(got, p) {
		t.Errorf("InsertNop(%v, %d) = %v, %v", p, at, got, ok)
	}
}

func checkSame(t *testing.T, a []impl.Ins, b []impl.Ins, want bool) {
	t.Helper()
	if got := impl.SamePrograms(a, b); got != want {
		t.Errorf("SamePrograms(%v, %v) = %v", a, b, got)
	}
	if got := impl.SamePrograms(b, a); got != want {
		t.Errorf("SamePrograms(%v, %v) = %v", b, a, got)
	}
}

func TestProgramOk(t *testing.T) {
	for _, p := range validPrograms() {
		if !impl.ProgramOk(p) {
			t.Errorf("ProgramOk(%v) = false", p)
		}
	}
	for _, p := range invalidPrograms() {
		if impl.ProgramOk(p) {
			t.Errorf("ProgramOk(%v) = true", p)
		}
	}
}

// A target may be the number of instructions, but not lie behind it.
func TestProgramOkOfTargets(t *testing.T) {
	for _, op := range []int{impl.InZero, impl.InJump} {
		for size := 1; size <= 32; size++ {
			for place := range size {
				for b := -2; b <= 34; b++ {
					p := nops(size)
					p[place] = impl.Ins{Op: op, B: b}
					want := b >= 0 && b <= size
					if got := impl.ProgramOk(p); got != want {
						t.Errorf("ProgramOk(%v) = %v", p, got)
					}
					if got := impl.IsQuiet(p); got != want {
						t.Errorf("IsQuiet(%v) = %v", p, got)
					}
				}
			}
		}
	}
}

func TestProgramOkOfSizes(t *testing.T) {
	for size := range 70 {
		want := size <= 32
		for _, p := range [][]impl.Ins{nops(size), numbered(size)} {
			if impl.ProgramOk(p) != want || impl.IsQuiet(p) != want {
				t.Errorf("a program of %d instructions: ProgramOk %v, IsQuiet %v", size, impl.ProgramOk(p), impl.IsQuiet(p))
			}
		}
	}
}

func TestIsQuiet(t *testing.T) {
	for _, p := range append(anyPrograms(impl.InHalt), nil, []impl.Ins{}, doubling(), counting(), numbered(32)) {
		if !impl.IsQuiet(p) {
			t.Errorf("IsQuiet(%v) = false", p)
		}
	}
	for _, p := range append(invalidPrograms(), sharing()) {
		if impl.IsQuiet(p) {
			t.Errorf("IsQuiet(%v) = true", p)
		}
	}
}

// One instruction that is not local is enough, wherever it is.
func TestIsQuietOfOneInstruction(t *testing.T) {
	for _, fact := range insFacts() {
		for _, size := range []int{1, 2, 8, 32} {
			for place := range size {
				p := nops(size)
				p[place] = impl.Ins{Op: fact.op}
				if got := impl.IsQuiet(p); got != fact.local {
					t.Errorf("IsQuiet(%v) = %v", p, got)
				}
				if !impl.ProgramOk(p) {
					t.Errorf("ProgramOk(%v) = false", p)
				}
			}
		}
	}
}

func TestSamePrograms(t *testing.T) {
	checkSame(t, nil, nil, true)
	checkSame(t, nil, []impl.Ins{}, true)
	checkSame(t, nops(0), make([]impl.Ins, 0, 9), true)
	checkSame(t, nil, nops(1), false)
	checkSame(t, doubling(), counting(), false)
	checkSame(t, nops(32), nops(31), false)
	for _, p := range validPrograms() {
		checkSame(t, p, slices.Clone(p), true)
		checkSame(t, p, append(slices.Clone(p), impl.Ins{}), false)
		if len(p) > 0 {
			checkSame(t, p, p[1:], false)
			checkSame(t, p, p[:len(p)-1], false)
		}
	}
}

func TestSameProgramsOfOneDifference(t *testing.T) {
	for _, p := range [][]impl.Ins{nops(1), doubling(), sharing(), numbered(32)} {
		for place, i := range p {
			for _, other := range []impl.Ins{
				{Op: i.Op + 1, A: i.A, B: i.B, C: i.C},
				{Op: i.Op, A: i.A + 1, B: i.B, C: i.C},
				{Op: i.Op, A: i.A, B: i.B + 1, C: i.C},
				{Op: i.Op, A: i.A, B: i.B, C: i.C + 1},
				{Op: i.Op, A: i.A, B: i.B + 1<<32, C: i.C},
				{Op: i.Op, A: i.A, B: -1 - i.B, C: i.C},
			} {
				q := slices.Clone(p)
				q[place] = other
				checkSame(t, p, q, false)
			}
		}
	}
}

func TestSameProgramsOfAnotherOrder(t *testing.T) {
	p := numbered(8)
	q := slices.Clone(p)
	q[2], q[5] = q[5], q[2]
	checkSame(t, p, q, false)
	slices.Reverse(p)
	checkSame(t, p, numbered(8), false)
}

// Programs that are not valid are compared too.
func TestSameProgramsOfInvalidPrograms(t *testing.T) {
	for _, p := range invalidPrograms() {
		checkSame(t, p, slices.Clone(p), true)
		checkSame(t, p, append(slices.Clone(p), impl.Ins{}), false)
	}
	checkSame(t, nops(33), append(nops(32), impl.Ins{Op: -1}), false)
}

func TestInsertNopExamples(t *testing.T) {
	checkInserted(t, nil, 0, []impl.Ins{{}})
	checkInserted(t, []impl.Ins{}, 0, []impl.Ins{{}})
	set, halt := impl.Ins{Op: impl.InSet, A: 1, B: 9}, impl.Ins{Op: impl.InHalt}
	checkInserted(t, []impl.Ins{set, halt}, 0, []impl.Ins{{}, set, halt})
	checkInserted(t, []impl.Ins{set, halt}, 1, []impl.Ins{set, {}, halt})
	checkInserted(t, []impl.Ins{set, halt}, 2, []impl.Ins{set, halt, {}})
	jump := func(b int) impl.Ins { return impl.Ins{Op: impl.InJump, B: b} }
	checkInserted(t, []impl.Ins{jump(0), jump(1), jump(2), jump(3)}, 0, []impl.Ins{{}, jump(0), jump(2), jump(3), jump(4)})
	checkInserted(t, []impl.Ins{jump(0), jump(1), jump(2), jump(3)}, 2, []impl.Ins{jump(0), jump(1), {}, jump(2), jump(4)})
	checkInserted(t, []impl.Ins{jump(4), jump(3), jump(2), jump(1)}, 3, []impl.Ins{jump(5), jump(3), jump(2), {}, jump(1)})
	checkInserted(t, []impl.Ins{jump(0), jump(4)}[:1], 1, []impl.Ins{jump(0), {}})
	checkInserted(t, []impl.Ins{jump(1)}, 1, []impl.Ins{jump(1), {}})
	checkInserted(t, []impl.Ins{jump(1)}, 0, []impl.Ins{{}, jump(2)})
	zero := func(b int) impl.Ins { return impl.Ins{Op: impl.InZero, A: 3, B: b} }
	checkInserted(t, []impl.Ins{zero(0), zero(1), zero(2), zero(3)}, 1, []impl.Ins{zero(0), {}, zero(1), zero(3), zero(4)})
	checkInserted(t, []impl.Ins{zero(4), zero(3), zero(4), zero(0)}, 4, []impl.Ins{zero(4), zero(3), zero(4), zero(0), {}})
}

func TestInsertNopAtEveryPlace(t *testing.T) {
	for _, p := range validPrograms() {
		for at := range len(p) + 1 {
			if len(p) == 32 {
				checkRejected(t, p, at)
				continue
			}
			checkInserted(t, p, at, longer(p, at))
			if q, _ := impl.InsertNop(p, at); !impl.ProgramOk(q) || impl.IsQuiet(q) != impl.IsQuiet(p) {
				t.Errorf("InsertNop(%v, %d) is not as valid and quiet as the program before", p, at)
			}
		}
		for _, bad := range notPlaces(len(p)) {
			checkRejected(t, p, bad)
		}
	}
}

// A target less than the place or equal to it stays; a greater one moves.
func TestInsertNopMovesTargets(t *testing.T) {
	for _, op := range []int{impl.InZero, impl.InJump} {
		for size := 1; size < 32; size++ {
			for at := range size + 1 {
				for b := range size + 1 {
					for _, place := range []int{0, size / 2, size - 1} {
						p := nops(size)
						p[place] = impl.Ins{Op: op, B: b}
						want, moved := b, place
						if b > at {
							want++
						}
						if place >= at {
							moved++
						}
						q, ok := impl.InsertNop(p, at)
						if !ok || len(q) != size+1 || q[moved] != (impl.Ins{Op: op, B: want}) || impl.CountOps(q, impl.InNop) != size {
							t.Errorf("InsertNop(%v, %d) = %v, %v", p, at, q, ok)
						}
					}
				}
			}
		}
	}
}

// Only B of InZero and InJump is a place; no other field is moved.
func TestInsertNopKeepsOtherFields(t *testing.T) {
	for _, fact := range insFacts() {
		if isTransfer(impl.Ins{Op: fact.op}) {
			continue
		}
		for n := range 4 * 4 * 4 {
			i := impl.Ins{Op: fact.op}
			for place, value := range []*int{&i.A, &i.B, &i.C} {
				if fact.fields[place] != '-' {
					*value = n >> (2 * place) & 3
				}
			}
			for at := range 4 {
				p := []impl.Ins{i, i, i}
				checkInserted(t, p, at, slices.Insert(slices.Clone(p), at, impl.Ins{}))
			}
		}
	}
	for _, b := range edgeWords() {
		set := impl.Ins{Op: impl.InSet, A: 2, B: b}
		checkInserted(t, []impl.Ins{set, set}, 0, []impl.Ins{{}, set, set})
	}
	for a := range 4 {
		zero := impl.Ins{Op: impl.InZero, A: a, B: 2}
		moved := impl.Ins{Op: impl.InZero, A: a, B: 3}
		checkInserted(t, []impl.Ins{zero, zero}, 0, []impl.Ins{{}, moved, moved})
	}
}

func TestInsertNopIntoFullProgram(t *testing.T) {
	p := numbered(30)
	for at := range 2 {
		q, ok := impl.InsertNop(p, at)
		if !ok || len(q) != 31+at {
			t.Fatalf("InsertNop into %d instructions returns %d, %v", len(p), len(q), ok)
		}
		p = q
	}
	for at := -1; at <= 34; at++ {
		checkRejected(t, p, at)
	}
}

func TestInsertNopIntoInvalidProgram(t *testing.T) {
	for _, p := range invalidPrograms() {
		for _, at := range []int{math.MinInt, -1, 0, 1, len(p) / 2, len(p), len(p) + 1, math.MaxInt} {
			checkRejected(t, p, at)
		}
	}
}

func TestCountOps(t *testing.T) {
	for _, c := range []struct {
		p    []impl.Ins
		op   int
		want int
	}{
		{nil, impl.InNop, 0},
		{[]impl.Ins{}, impl.InHalt, 0},
		{doubling(), impl.InAdd, 2},
		{doubling(), impl.InSet, 2},
		{doubling(), impl.InSelf, 1},
		{doubling(), impl.InJump, 1},
		{doubling(), impl.InNop, 0},
		{doubling(), impl.InBarrier, 0},
		{doubling(), 17, 0},
		{doubling(), -1, 0},
		{doubling(), math.MaxInt, 0},
		{sharing(), impl.InBarrier, 1},
		{nops(32), impl.InNop, 32},
		{nops(32), impl.InSet, 0},
		{nops(33), impl.InNop, 33},
		{numbered(1000), impl.InSet, 1000},
	} {
		if got := impl.CountOps(c.p, c.op); got != c.want {
			t.Errorf("CountOps(%v, %d) = %d, not %d", c.p, c.op, got, c.want)
		}
	}
}

func TestCountOpsOfEveryOperation(t *testing.T) {
	for _, p := range validPrograms() {
		counts := map[int]int{}
		for _, i := range p {
			counts[i.Op]++
		}
		for op := range 20 {
			if got := impl.CountOps(p, op); got != counts[op] {
				t.Errorf("CountOps(%v, %d) = %d, not %d", p, op, got, counts[op])
			}
		}
		for _, bad := range notOps() {
			if got := impl.CountOps(p, bad); got != 0 {
				t.Errorf("CountOps(%v, %d) = %d", p, bad, got)
			}
		}
	}
}

// CountOps does not check validity: an Op that does not exist is counted like
// every other one.
func TestCountOpsOfInvalidPrograms(t *testing.T) {
	for _, bad := range notOps() {
		p := []impl.Ins{{Op: bad, A: 1}, {}, {Op: bad, B: 9}, {Op: impl.InAdd, A: 7}}
		if impl.CountOps(p, bad) != 2 || impl.CountOps(p, impl.InNop) != 1 || impl.CountOps(p, impl.InAdd) != 1 {
			t.Errorf("the program %v: %d, %d, %d", p, impl.CountOps(p, bad), impl.CountOps(p, impl.InNop), impl.CountOps(p, impl.InAdd))
		}
	}
}

// InsertNop adds one InNop and changes the number of no other operation.
func TestInsertNopAddsOneNop(t *testing.T) {
	for _, p := range validPrograms() {
		for at := range len(p) + 1 {
			q, ok := impl.InsertNop(p, at)
			for op := range 17 {
				want := impl.CountOps(p, op)
				if ok && op == impl.InNop {
					want++
				}
				if got := impl.CountOps(q, op); got != want {
					t.Errorf("CountOps of InsertNop(%v, %d) for %d is %d, not %d", p, at, op, got, want)
				}
			}
		}
	}
}

// machine is one thread with a memory of its own, as chapter 4 describes it.
type machine struct {
	pc     int
	regs   [4]int
	memory map[int]int
}

// perform performs an instruction and moves on.
func (m *machine) perform(i impl.Ins, thread int, size int) {
	m.pc++
	switch i.Op {
	case impl.InSet:
		m.regs[i.A] = i.B
	case impl.InMove:
		m.regs[i.A] = m.regs[i.B]
	case impl.InAdd:
		m.regs[i.A] = (m.regs[i.B] + m.regs[i.C]) % 65536
	case impl.InSub:
		m.regs[i.A] = (m.regs[i.B] + 65536 - m.regs[i.C]) % 65536
	case impl.InMul:
		m.regs[i.A] = m.regs[i.B] * m.regs[i.C] % 65536
	case impl.InXor:
		m.regs[i.A] = m.regs[i.B] ^ m.regs[i.C]
	case impl.InLess:
		m.regs[i.A] = map[bool]int{true: 1}[m.regs[i.B] < m.regs[i.C]]
	case impl.InSelf:
		m.regs[i.A] = thread
	case impl.InPick:
		if m.regs[i.C] != 0 {
			m.regs[i.A] = m.regs[i.B]
		}
	case impl.InZero:
		if m.regs[i.A] == 0 {
			m.pc = i.B
		}
	case impl.InJump:
		m.pc = i.B
	case impl.InHalt:
		m.pc = size
	case impl.InLoad:
		m.regs[i.A] = m.memory[m.regs[i.B]]
	case impl.InStore:
		m.memory[m.regs[i.A]] = m.regs[i.B]
	case impl.InBump:
		m.memory[m.regs[i.A]] = (m.memory[m.regs[i.A]] + m.regs[i.B]) % 65536
	}
}

// effect is what a thread has after an instruction other than InNop.
type effect struct {
	op     int
	regs   [4]int
	memory int
}

// effectsOf returns the effects of a program, at most limit of them, and whether
// the thread ends.
func effectsOf(p []impl.Ins, thread int, limit int) ([]effect, bool) {
	m := machine{memory: map[int]int{}}
	list := []effect{}
	for len(list) < limit && m.pc < len(p) {
		i := p[m.pc]
		m.perform(i, thread, len(p))
		if i.Op != impl.InNop {
			sum := 0
			for address, value := range m.memory {
				sum += (address + 1) * value
			}
			list = append(list, effect{i.Op, m.regs, sum})
		}
	}
	return list, m.pc == len(p)
}

// Promise 5: an instruction without effect changes no result, wherever it is
// inserted.
func TestInsertedNopHasNoEffect(t *testing.T) {
	const limit = 60
	for _, p := range validPrograms() {
		if len(p) == 32 {
			continue
		}
		for at := range len(p) + 1 {
			q, ok := impl.InsertNop(p, at)
			if !ok {
				t.Fatalf("InsertNop(%v, %d) returns false", p, at)
			}
			for _, thread := range []int{0, 1, 3, 23} {
				effects, ends := effectsOf(p, thread, limit)
				after, endsAfter := effectsOf(q, thread, limit)
				// A thread that has just reached the limit may still have InNop before it.
				if !slices.Equal(effects, after) || len(effects) < limit && ends != endsAfter {
					t.Fatalf("thread %d of InsertNop(%v, %d) ends otherwise than before", thread, p, at)
				}
			}
		}
	}
}

// A jump to the place of the insertion performs the new InNop too.
func TestJumpReachesInsertedNop(t *testing.T) {
	for size := 1; size < 32; size++ {
		for at := range size {
			p := nops(size)
			p[0] = impl.Ins{Op: impl.InJump, B: at}
			q, ok := impl.InsertNop(p, at)
			place := slices.IndexFunc(q, isTransfer)
			if !ok || place < 0 || q[place].B != at || q[at] != (impl.Ins{}) {
				t.Errorf("InsertNop(%v, %d) = %v, %v", p, at, q, ok)
			}
		}
	}
}

// guarded returns a program with marked spare capacity behind it.
func guarded(p []impl.Ins) (program []impl.Ins, whole []impl.Ins) {
	whole = slices.Concat(p, slices.Repeat([]impl.Ins{{Op: 91, A: 92, B: 93, C: 94}}, 40))
	return whole[:len(p)], whole
}

// Neither the call nor a change of its result changes the argument or its spare
// capacity, whether the insertion succeeds or not.
func TestInsertNopReturnsNewMemory(t *testing.T) {
	for _, original := range slices.Concat(validPrograms(), longPrograms(), [][]impl.Ins{{{Op: 17}}, {{}, {Op: impl.InJump, B: 3}}}) {
		for _, at := range []int{-1, 0, len(original) / 2, len(original), len(original) + 1} {
			p, whole := guarded(original)
			before := slices.Clone(whole)
			q, ok := impl.InsertNop(p, at)
			second, _ := impl.InsertNop(p, at)
			want := slices.Clone(second)
			q = append(q, impl.Ins{Op: 81})
			for place := range q[:cap(q)] {
				q[:cap(q)][place] = impl.Ins{Op: 82}
			}
			if !slices.Equal(whole, before) {
				t.Fatalf("InsertNop(%v, %d) = _, %v shares memory with its argument", original, at, ok)
			}
			if !slices.Equal(second, want) {
				t.Fatalf("two results of InsertNop(%v, %d) share memory", original, at)
			}
			for place := range whole {
				whole[place] = impl.Ins{Op: 83}
			}
			if !slices.Equal(second, want) {
				t.Fatalf("a change of the argument changes the result of InsertNop(%v, %d)", original, at)
			}
		}
	}
}

// The functions look at the instructions of the list alone, and change none.
func TestProgramsAreLeft(t *testing.T) {
	for _, original := range append(validPrograms(), nops(33)) {
		p, whole := guarded(original)
		before := slices.Clone(whole)
		if impl.ProgramOk(p) != impl.ProgramOk(original) || impl.IsQuiet(p) != impl.IsQuiet(original) || !impl.SamePrograms(p, original) || impl.CountOps(p, 91) != 0 {
			t.Errorf("the spare capacity behind %v counts", original)
		}
		if !slices.Equal(whole, before) {
			t.Errorf("the program %v was changed to %v", original, whole)
		}
	}
}
