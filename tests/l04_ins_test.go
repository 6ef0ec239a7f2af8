package tests

import (
	"math"
	"slices"
	"testing"

	"loop.example/g00985/impl"
)

// insFact is what the document says of one operation. Each letter of fields
// stands for A, B or C: r is a register, w a word, t a target, and - a field
// that must be 0. reads names the fields whose registers are read.
type insFact struct {
	op     int
	name   string
	fields string
	reads  string
	writes bool
	local  bool
}

func insFacts() []insFact {
	return []insFact{
		{impl.InNop, "nop", "---", "", false, true},
		{impl.InSet, "set", "rw-", "", true, true},
		{impl.InMove, "move", "rr-", "B", true, true},
		{impl.InAdd, "add", "rrr", "BC", true, true},
		{impl.InSub, "sub", "rrr", "BC", true, true},
		{impl.InMul, "mul", "rrr", "BC", true, true},
		{impl.InXor, "xor", "rrr", "BC", true, true},
		{impl.InLess, "less", "rrr", "BC", true, true},
		{impl.InSelf, "self", "r--", "", true, true},
		{impl.InPick, "pick", "rrr", "ABC", true, true},
		{impl.InZero, "zero", "rt-", "A", false, true},
		{impl.InJump, "jump", "-t-", "", false, true},
		{impl.InHalt, "halt", "---", "", false, true},
		{impl.InLoad, "load", "rr-", "B", true, false},
		{impl.InStore, "store", "rr-", "AB", false, false},
		{impl.InBump, "bump", "rr-", "AB", false, false},
		{impl.InBarrier, "barrier", "---", "", false, false},
	}
}

// notOps returns numbers of no operation.
func notOps() []int {
	return []int{-1, -2, -16, -17, 17, 18, 31, 32, 255, 256, 65536, 1 << 32, 1<<32 + 1, math.MinInt, math.MinInt + 1, math.MaxInt}
}

// notSizes returns numbers that are no size of a program.
func notSizes() []int {
	return []int{-1, -2, -32, 33, 34, 64, 65536, 1 << 32, 1<<32 + 5, math.MinInt, math.MinInt + 5, math.MaxInt}
}

// notRegs returns numbers that are no registers.
func notRegs() []int {
	return []int{-1, -2, -3, -4, -5, -65536, 4, 5, 7, 8, 31, 32, 255, 65535, 1 << 32, 1<<32 + 1, math.MinInt, math.MinInt + 1, math.MaxInt}
}

// fieldValues returns numbers at which the validity of fields changes.
func fieldValues(size int) []int {
	return []int{math.MinInt, -65536, -1, 0, 1, 2, 3, 4, 5, size - 1, size, size + 1, 31, 32, 33, 65534, 65535, 65536, math.MaxInt}
}

// fitsField reports whether the document allows a value in a field.
func fitsField(letter byte, value int, size int) bool {
	switch letter {
	case 'r':
		return slices.Contains([]int{0, 1, 2, 3}, value)
	case 'w':
		return value >= 0 && value <= 65535
	case 't':
		return value >= 0 && value <= size
	}
	return value == 0
}

// fieldsOf returns the values of the named fields, ascending, each once.
func fieldsOf(i impl.Ins, names string) []int {
	list := []int{}
	for _, name := range names {
		list = append(list, map[rune]int{'A': i.A, 'B': i.B, 'C': i.C}[name])
	}
	slices.Sort(list)
	return slices.Compact(list)
}

func checkInsOk(t *testing.T, i impl.Ins, size int, want bool) {
	t.Helper()
	if got := impl.InsOk(i, size); got != want {
		t.Errorf("InsOk(%v, %d) = %v", i, size, got)
	}
}

func TestInsConstants(t *testing.T) {
	for op, fact := range insFacts() {
		if fact.op != op {
			t.Errorf("the operation %s has the number %d, not %d", fact.name, fact.op, op)
		}
	}
	if impl.MaxRegs != 4 || impl.MaxCode != 32 {
		t.Errorf("MaxRegs = %d, MaxCode = %d", impl.MaxRegs, impl.MaxCode)
	}
}

func TestOpName(t *testing.T) {
	for _, fact := range insFacts() {
		if got := impl.OpName(fact.op); got != fact.name {
			t.Errorf("OpName(%d) = %q, not %q", fact.op, got, fact.name)
		}
	}
	for _, bad := range notOps() {
		if got := impl.OpName(bad); got != "" {
			t.Errorf("OpName(%d) = %q", bad, got)
		}
	}
}

func TestInsOkExamples(t *testing.T) {
	for _, c := range []struct {
		ins  impl.Ins
		size int
	}{
		{impl.Ins{}, 1},
		{impl.Ins{Op: impl.InSet, A: 3, B: 65535}, 1},
		{impl.Ins{Op: impl.InMove, A: 3, B: 1}, 2},
		{impl.Ins{Op: impl.InAdd, A: 1, B: 2, C: 3}, 3},
		{impl.Ins{Op: impl.InSub, A: 3, B: 2, C: 1}, 4},
		{impl.Ins{Op: impl.InMul, A: 2, B: 2, C: 2}, 5},
		{impl.Ins{Op: impl.InXor, A: 0, B: 3, C: 3}, 6},
		{impl.Ins{Op: impl.InLess, A: 3, B: 3, C: 0}, 7},
		{impl.Ins{Op: impl.InSelf, A: 3}, 8},
		{impl.Ins{Op: impl.InPick, A: 3, B: 1, C: 3}, 9},
		{impl.Ins{Op: impl.InZero, A: 3, B: 5}, 5},
		{impl.Ins{Op: impl.InJump, B: 11}, 11},
		{impl.Ins{Op: impl.InHalt}, 12},
		{impl.Ins{Op: impl.InLoad, A: 3, B: 2}, 13},
		{impl.Ins{Op: impl.InStore, A: 2, B: 3}, 14},
		{impl.Ins{Op: impl.InBump, A: 1, B: 3}, 15},
		{impl.Ins{Op: impl.InBarrier}, 32},
	} {
		checkInsOk(t, c.ins, c.size, true)
	}
}

// Every operation is tried with all combinations of values at the edges, in
// programs of every size.
func TestInsOkOfAllFields(t *testing.T) {
	for _, fact := range insFacts() {
		for size := range impl.MaxCode + 1 {
			values := fieldValues(size)
			for _, a := range values {
				for _, b := range values {
					for _, c := range values {
						want := fitsField(fact.fields[0], a, size) && fitsField(fact.fields[1], b, size) && fitsField(fact.fields[2], c, size)
						checkInsOk(t, impl.Ins{Op: fact.op, A: a, B: b, C: c}, size, want)
					}
				}
			}
		}
	}
}

func TestInsOkOfFieldsThatAreNotMentioned(t *testing.T) {
	for _, i := range []impl.Ins{
		{A: 1}, {B: 1}, {C: 1}, {C: -1},
		{Op: impl.InSet, A: 1, B: 2, C: 1},
		{Op: impl.InMove, A: 1, B: 2, C: 3},
		{Op: impl.InSelf, A: 1, B: 1},
		{Op: impl.InSelf, A: 1, C: 1},
		{Op: impl.InZero, A: 1, B: 2, C: 3},
		{Op: impl.InJump, A: 1, B: 2},
		{Op: impl.InJump, B: 2, C: 1},
		{Op: impl.InHalt, A: 1},
		{Op: impl.InHalt, B: 1},
		{Op: impl.InHalt, C: 1},
		{Op: impl.InLoad, A: 1, B: 2, C: 3},
		{Op: impl.InStore, A: 1, B: 2, C: 3},
		{Op: impl.InBump, A: 1, B: 2, C: 3},
		{Op: impl.InBarrier, A: 1},
		{Op: impl.InBarrier, B: 1},
		{Op: impl.InBarrier, C: 1},
	} {
		checkInsOk(t, i, 32, false)
	}
}

func TestInsOkOfNoRegister(t *testing.T) {
	for _, fact := range insFacts() {
		for place, letter := range fact.fields {
			if letter != 'r' {
				continue
			}
			for _, reg := range append(notRegs(), 0, 1, 2, 3) {
				fields := [3]int{}
				fields[place] = reg
				i := impl.Ins{Op: fact.op, A: fields[0], B: fields[1], C: fields[2]}
				checkInsOk(t, i, 4, reg >= 0 && reg < 4)
			}
		}
	}
}

func TestInsOkOfSet(t *testing.T) {
	for _, size := range []int{0, 1, 32} {
		for _, b := range edgeWords() {
			checkInsOk(t, impl.Ins{Op: impl.InSet, A: 2, B: b}, size, true)
		}
		for _, b := range notWords() {
			checkInsOk(t, impl.Ins{Op: impl.InSet, A: 2, B: b}, size, false)
		}
	}
}

func TestInsOkOfTargets(t *testing.T) {
	for size := range 33 {
		for b := -3; b <= 40; b++ {
			checkInsOk(t, impl.Ins{Op: impl.InZero, A: 1, B: b}, size, b >= 0 && b <= size)
			checkInsOk(t, impl.Ins{Op: impl.InJump, B: b}, size, b >= 0 && b <= size)
		}
	}
}

func TestInsOkOfSizes(t *testing.T) {
	for _, fact := range insFacts() {
		i := impl.Ins{Op: fact.op}
		for size := range 33 {
			checkInsOk(t, i, size, true)
		}
		for _, bad := range notSizes() {
			checkInsOk(t, i, bad, false)
		}
	}
}

func TestInsOkOfNoOperation(t *testing.T) {
	for _, bad := range notOps() {
		for _, size := range append(notSizes(), 0, 1, 5, 32) {
			checkInsOk(t, impl.Ins{Op: bad}, size, false)
			checkInsOk(t, impl.Ins{Op: bad, A: 1, B: 1, C: 1}, size, false)
		}
	}
}

func TestWritesReg(t *testing.T) {
	for _, fact := range insFacts() {
		for a := range 4 {
			for b := range 4 {
				want := -1
				if fact.writes {
					want = a
				}
				i := impl.Ins{Op: fact.op, A: a, B: b, C: 3 - b}
				if got := impl.WritesReg(i); got != want {
					t.Errorf("WritesReg(%v) = %d, not %d", i, got, want)
				}
			}
		}
	}
}

func TestReadsRegsExamples(t *testing.T) {
	for _, c := range []struct {
		ins  impl.Ins
		want []int
	}{
		{impl.Ins{Op: impl.InNop}, nil},
		{impl.Ins{Op: impl.InSet, A: 1, B: 2}, nil},
		{impl.Ins{Op: impl.InMove, A: 1, B: 2}, []int{2}},
		{impl.Ins{Op: impl.InMove, A: 2, B: 2}, []int{2}},
		{impl.Ins{Op: impl.InAdd, A: 0, B: 1, C: 2}, []int{1, 2}},
		{impl.Ins{Op: impl.InAdd, A: 0, B: 2, C: 1}, []int{1, 2}},
		{impl.Ins{Op: impl.InSub, A: 0, B: 3, C: 3}, []int{3}},
		{impl.Ins{Op: impl.InMul, A: 2, B: 3, C: 0}, []int{0, 3}},
		{impl.Ins{Op: impl.InXor, A: 1, B: 0, C: 0}, []int{0}},
		{impl.Ins{Op: impl.InLess, A: 3, B: 3, C: 2}, []int{2, 3}},
		{impl.Ins{Op: impl.InSelf, A: 2}, nil},
		{impl.Ins{Op: impl.InPick, A: 3, B: 2, C: 1}, []int{1, 2, 3}},
		{impl.Ins{Op: impl.InPick, A: 2, B: 0, C: 2}, []int{0, 2}},
		{impl.Ins{Op: impl.InPick, A: 3, B: 3, C: 1}, []int{1, 3}},
		{impl.Ins{Op: impl.InPick, A: 1, B: 1, C: 1}, []int{1}},
		{impl.Ins{Op: impl.InZero, A: 3, B: 2}, []int{3}},
		{impl.Ins{Op: impl.InJump, B: 2}, nil},
		{impl.Ins{Op: impl.InHalt}, nil},
		{impl.Ins{Op: impl.InLoad, A: 1, B: 3}, []int{3}},
		{impl.Ins{Op: impl.InStore, A: 3, B: 0}, []int{0, 3}},
		{impl.Ins{Op: impl.InStore, A: 2, B: 2}, []int{2}},
		{impl.Ins{Op: impl.InBump, A: 2, B: 1}, []int{1, 2}},
		{impl.Ins{Op: impl.InBump, A: 0, B: 0}, []int{0}},
		{impl.Ins{Op: impl.InBarrier}, nil},
	} {
		if got := impl.ReadsRegs(c.ins); !slices.Equal(got, c.want) {
			t.Errorf("ReadsRegs(%v) = %v, not %v", c.ins, got, c.want)
		}
	}
}

// Promise 4: registers that are read are ascending, and only local instructions
// and loads write one.
func TestReadAndWrittenRegisters(t *testing.T) {
	for _, fact := range insFacts() {
		for n := range 4 * 4 * 4 {
			i := impl.Ins{Op: fact.op, A: n % 4, B: n / 4 % 4, C: n / 16}
			reads := impl.ReadsRegs(i)
			for place := 1; place < len(reads); place++ {
				if reads[place-1] >= reads[place] {
					t.Errorf("ReadsRegs(%v) = %v, not ascending", i, reads)
				}
			}
			if want := fieldsOf(i, fact.reads); !slices.Equal(reads, want) {
				t.Errorf("ReadsRegs(%v) = %v, not %v", i, reads, want)
			}
			if impl.WritesReg(i) != -1 && !impl.IsLocal(i) && i.Op != impl.InLoad {
				t.Errorf("%v writes a register, but is neither local nor a load", i)
			}
		}
	}
}

func TestIsLocal(t *testing.T) {
	for _, fact := range insFacts() {
		for _, i := range []impl.Ins{{Op: fact.op}, {Op: fact.op, A: 3, B: 2, C: 1}, {Op: fact.op, A: -1, B: 65536, C: 4}} {
			if got := impl.IsLocal(i); got != fact.local {
				t.Errorf("IsLocal(%v) = %v", i, got)
			}
		}
	}
}

func TestRegistersOfNoOperation(t *testing.T) {
	for _, bad := range notOps() {
		for _, i := range []impl.Ins{{Op: bad}, {Op: bad, A: 1, B: 2, C: 3}, {Op: bad, A: -1, B: -2, C: -3}} {
			if got := impl.WritesReg(i); got != -1 {
				t.Errorf("WritesReg(%v) = %d", i, got)
			}
			if got := impl.ReadsRegs(i); len(got) != 0 {
				t.Errorf("ReadsRegs(%v) = %v", i, got)
			}
			if impl.IsLocal(i) {
				t.Errorf("IsLocal(%v) = true", i)
			}
		}
	}
}

// WritesReg and ReadsRegs do not check validity: an instruction that changes or
// reads no register has none whatever its fields are, and the fields of all
// other ones are returned as they are.
func TestRegistersAreNotChecked(t *testing.T) {
	for _, fact := range insFacts() {
		for _, bad := range notRegs() {
			i := impl.Ins{Op: fact.op, A: bad, B: -7, C: -9}
			want := -1
			if fact.writes {
				want = bad
			}
			if got := impl.WritesReg(i); got != want {
				t.Errorf("WritesReg(%v) = %d, not %d", i, got, want)
			}
			if got, want := impl.ReadsRegs(i), fieldsOf(i, fact.reads); !slices.Equal(got, want) {
				t.Errorf("ReadsRegs(%v) = %v, not %v", i, got, want)
			}
		}
	}
}

func TestReadsRegsReturnsNewMemory(t *testing.T) {
	for _, fact := range insFacts() {
		i := impl.Ins{Op: fact.op, A: 3, B: 2, C: 1}
		first, second := impl.ReadsRegs(i), impl.ReadsRegs(i)
		for place := range first {
			first[place] = -1
		}
		first = append(first, -1, -1, -1)
		third := impl.ReadsRegs(i)
		want := fieldsOf(i, fact.reads)
		if !slices.Equal(second, want) || !slices.Equal(third, want) {
			t.Errorf("a change of one result, now %v, changed others to %v and %v", first, second, third)
		}
	}
}
