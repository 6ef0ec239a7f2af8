package tests

import (
	"math"
	"slices"
	"testing"

	"loop.example/g00985/impl"
)

// notThreads returns numbers that are no threads.
func notThreads() []int {
	return []int{-1, -2, -8, -23, -24, -25, 24, 25, 31, 32, 48, 255, 65536, 1 << 32, 1<<32 + 1, math.MinInt, math.MinInt + 1, math.MaxInt - 1, math.MaxInt}
}

// someThreads returns threads, the first and the last one among them.
func someThreads() []int {
	return []int{0, 1, 2, 3, 7, 8, 15, 16, 22, 23}
}

// regLists returns registers of a lane, with each of them 0, not 0, and at the
// ends of the words.
func regLists() [][]int {
	list := [][]int{
		{0, 0, 0, 0}, {65535, 65535, 65535, 65535}, {1, 2, 3, 4}, {5, 7, 0, 65535}, {65534, 256, 257, 32768},
		{32768, 32768, 32767, 1}, {40000, 30000, 20000, 10000}, {3, 3, 2, 2}, {21845, 43690, 65535, 255}, {65535, 65534, 2, 65535},
	}
	for place := range 4 {
		for _, words := range [][2]int{{0, 9}, {8, 0}, {0, 65535}, {65535, 0}, {1, 65535}} {
			one := slices.Repeat([]int{words[1]}, 4)
			one[place] = words[0]
			list = append(list, one)
		}
	}
	return list
}

// notRegLists returns lists that are not the registers of a lane.
func notRegLists() [][]int {
	list := [][]int{nil, {}, {0}, {1, 2}, {1, 2, 3}, {0, 0, 0, 0, 0}, {1, 2, 3, 4, 5}, make([]int, 8), make([]int, 32), make([]int, 1000)}
	for _, bad := range notWords() {
		for place := range 4 {
			one := []int{1, 2, 3, 4}
			one[place] = bad
			list = append(list, one)
		}
		list = append(list, slices.Repeat([]int{bad}, 4), []int{1, 2, 3, 4, bad}, []int{bad})
	}
	return list
}

// insWithFields returns an operation with registers as given by n, a number
// below 64, and with words and targets as given by b.
func insWithFields(fact insFact, n int, b int) impl.Ins {
	i := impl.Ins{Op: fact.op}
	for place, field := range []*int{&i.A, &i.B, &i.C} {
		switch fact.fields[place] {
		case 'r':
			*field = n >> (2 * place) & 3
		case 'w', 't':
			*field = b
		}
	}
	return i
}

func sameLane(a impl.Lane, b impl.Lane) bool {
	return a.Thread == b.Thread && a.Pc == b.Pc && slices.Equal(a.Regs, b.Regs)
}

// stepByMachine returns what a local instruction makes of a lane, performed as
// chapter 4 describes it.
func stepByMachine(p []impl.Ins, l impl.Lane) impl.Lane {
	m := machine{pc: l.Pc, regs: [4]int(l.Regs)}
	m.perform(p[l.Pc], l.Thread, len(p))
	return impl.Lane{Thread: l.Thread, Pc: m.pc, Regs: m.regs[:]}
}

// canStep reports whether the next instruction of a valid lane is local.
func canStep(p []impl.Ins, l impl.Lane) bool {
	return l.Pc < len(p) && insFacts()[p[l.Pc].Op].local
}

// lanesAt returns valid lanes at each place of a program.
func lanesAt(p []impl.Ins) []impl.Lane {
	list := []impl.Lane{}
	for pc := range len(p) + 1 {
		for n, regs := range regLists() {
			list = append(list, impl.Lane{Thread: (5*n + pc) % 24, Pc: pc, Regs: regs})
		}
	}
	return list
}

// brokenLanes returns lanes that are not valid in a program of size
// instructions, each for one reason.
func brokenLanes(size int) []impl.Lane {
	list := []impl.Lane{{}, {Pc: size}, {Thread: 5}}
	for _, pc := range []int{0, size / 2, size} {
		for _, bad := range notThreads() {
			list = append(list, impl.Lane{Thread: bad, Pc: pc, Regs: []int{1, 2, 3, 4}})
		}
		for _, bad := range notRegLists() {
			list = append(list, impl.Lane{Thread: 7, Pc: pc, Regs: bad})
		}
	}
	for _, bad := range notPlaces(size) {
		list = append(list, impl.Lane{Thread: 7, Pc: bad, Regs: []int{1, 2, 3, 4}})
	}
	return list
}

func checkStep(t *testing.T, p []impl.Ins, l impl.Lane, want impl.Lane) {
	t.Helper()
	if got, ok := impl.LocalStep(p, l); !ok || !sameLane(got, want) {
		t.Errorf("LocalStep(%v, %v) = %v, %v, not %v", p, l, got, ok, want)
	}
}

func checkNoStep(t *testing.T, p []impl.Ins, l impl.Lane) {
	t.Helper()
	if got, ok := impl.LocalStep(p, l); ok || !sameLane(got, l) {
		t.Errorf("LocalStep(%v, %v) = %v, %v", p, l, got, ok)
	}
}

func checkApplied(t *testing.T, i impl.Ins, thread int, regs []int, want []int) {
	t.Helper()
	if got := impl.ApplyIns(i, thread, regs); !slices.Equal(got, want) {
		t.Errorf("ApplyIns(%v, %d, %v) = %v, not %v", i, thread, regs, got, want)
	}
}

func checkLane(t *testing.T, p []impl.Ins, l impl.Lane, valid bool, ended bool) {
	t.Helper()
	if got := impl.LaneOk(p, l); got != valid {
		t.Errorf("LaneOk(%v, %v) = %v", p, l, got)
	}
	if got := impl.LaneEnded(p, l); got != ended {
		t.Errorf("LaneEnded(%v, %v) = %v", p, l, got)
	}
}

func TestMaxThreads(t *testing.T) {
	if impl.MaxThreads != 24 {
		t.Errorf("MaxThreads = %d", impl.MaxThreads)
	}
}

func TestLaneNew(t *testing.T) {
	for thread := range 24 {
		if got := impl.LaneNew(thread); !sameLane(got, impl.Lane{Thread: thread, Regs: []int{0, 0, 0, 0}}) {
			t.Errorf("LaneNew(%d) = %v", thread, got)
		}
	}
	for _, bad := range notThreads() {
		if got := impl.LaneNew(bad); !sameLane(got, impl.Lane{}) {
			t.Errorf("LaneNew(%d) = %v", bad, got)
		}
	}
}

// A new lane is valid in every valid program, and has ended in the empty one
// only.
func TestNewLanes(t *testing.T) {
	for _, p := range validPrograms() {
		for thread := range 24 {
			checkLane(t, p, impl.LaneNew(thread), true, len(p) == 0)
		}
		for _, bad := range notThreads() {
			checkLane(t, p, impl.LaneNew(bad), false, false)
			checkNoStep(t, p, impl.LaneNew(bad))
		}
	}
}

func TestLaneOk(t *testing.T) {
	for _, p := range validPrograms() {
		for _, l := range lanesAt(p) {
			checkLane(t, p, l, true, l.Pc == len(p))
		}
		for _, l := range brokenLanes(len(p)) {
			checkLane(t, p, l, false, false)
		}
	}
}

func TestLaneOkOfAllThreads(t *testing.T) {
	for _, p := range [][]impl.Ins{nil, {}, nops(1), doubling(), sharing(), nops(32)} {
		for thread := -30; thread < 60; thread++ {
			valid := thread >= 0 && thread < 24
			checkLane(t, p, impl.Lane{Thread: thread, Regs: []int{1, 2, 3, 4}}, valid, valid && len(p) == 0)
			checkLane(t, p, impl.Lane{Thread: thread, Pc: len(p), Regs: []int{1, 2, 3, 4}}, valid, valid)
		}
	}
}

func TestLaneOkOfAllPlaces(t *testing.T) {
	for size := range 33 {
		for pc := -40; pc < 80; pc++ {
			l := impl.Lane{Thread: 1, Pc: pc, Regs: []int{4, 3, 2, 1}}
			checkLane(t, nops(size), l, pc >= 0 && pc <= size, pc == size)
			if pc < 0 || pc >= size {
				checkNoStep(t, nops(size), l)
			}
		}
	}
}

func TestLaneOkOfEdgeWords(t *testing.T) {
	for place := range 4 {
		for _, good := range edgeWords() {
			l := impl.LaneNew(3)
			l.Regs[place] = good
			checkLane(t, doubling(), l, true, false)
		}
		for _, bad := range notWords() {
			l := impl.LaneNew(3)
			l.Regs[place] = bad
			checkLane(t, doubling(), l, false, false)
			checkNoStep(t, doubling(), l)
		}
	}
}

func TestLaneOfInvalidPrograms(t *testing.T) {
	for _, p := range invalidPrograms() {
		for _, pc := range []int{0, len(p) / 2, len(p) - 1, len(p), 32} {
			l := impl.Lane{Thread: 2, Pc: pc, Regs: []int{1, 0, 3, 4}}
			checkLane(t, p, l, false, false)
			checkNoStep(t, p, l)
		}
	}
}

// One instruction that is not valid is enough, wherever the lane is.
func TestLaneOfOneInvalidInstruction(t *testing.T) {
	for _, i := range brokenIns(3) {
		for pc := range 4 {
			l := impl.Lane{Thread: 2, Pc: pc, Regs: []int{1, 0, 3, 4}}
			for place := range 3 {
				p := []impl.Ins{jump(1), halt(), {Op: impl.InSelf, A: 1}}
				p[place] = i
				checkLane(t, p, l, false, false)
				checkNoStep(t, p, l)
			}
		}
	}
}

func TestApplyInsExamples(t *testing.T) {
	for _, c := range []struct {
		op, a, b, c int
		want        []int
	}{
		{impl.InNop, 0, 0, 0, []int{5, 7, 0, 65535}},
		{impl.InSet, 2, 65535, 0, []int{5, 7, 65535, 65535}},
		{impl.InSet, 0, 0, 0, []int{0, 7, 0, 65535}},
		{impl.InSet, 3, 2, 0, []int{5, 7, 0, 2}},
		{impl.InMove, 0, 3, 0, []int{65535, 7, 0, 65535}},
		{impl.InMove, 3, 0, 0, []int{5, 7, 0, 5}},
		{impl.InMove, 1, 1, 0, []int{5, 7, 0, 65535}},
		{impl.InAdd, 2, 0, 1, []int{5, 7, 12, 65535}},
		{impl.InAdd, 0, 1, 3, []int{6, 7, 0, 65535}},
		{impl.InAdd, 1, 1, 1, []int{5, 14, 0, 65535}},
		{impl.InAdd, 3, 3, 3, []int{5, 7, 0, 65534}},
		{impl.InSub, 2, 1, 0, []int{5, 7, 2, 65535}},
		{impl.InSub, 2, 0, 1, []int{5, 7, 65534, 65535}},
		{impl.InSub, 0, 2, 3, []int{1, 7, 0, 65535}},
		{impl.InSub, 1, 1, 1, []int{5, 0, 0, 65535}},
		{impl.InMul, 2, 0, 1, []int{5, 7, 35, 65535}},
		{impl.InMul, 2, 3, 3, []int{5, 7, 1, 65535}},
		{impl.InMul, 0, 1, 3, []int{65529, 7, 0, 65535}},
		{impl.InMul, 3, 2, 3, []int{5, 7, 0, 0}},
		{impl.InXor, 2, 0, 1, []int{5, 7, 2, 65535}},
		{impl.InXor, 2, 1, 3, []int{5, 7, 65528, 65535}},
		{impl.InXor, 0, 0, 0, []int{0, 7, 0, 65535}},
		{impl.InLess, 2, 0, 1, []int{5, 7, 1, 65535}},
		{impl.InLess, 3, 1, 0, []int{5, 7, 0, 0}},
		{impl.InLess, 0, 2, 3, []int{1, 7, 0, 65535}},
		{impl.InLess, 1, 3, 2, []int{5, 0, 0, 65535}},
		{impl.InLess, 3, 3, 3, []int{5, 7, 0, 0}},
		{impl.InSelf, 0, 0, 0, []int{19, 7, 0, 65535}},
		{impl.InSelf, 3, 0, 0, []int{5, 7, 0, 19}},
		{impl.InPick, 0, 1, 2, []int{5, 7, 0, 65535}},
		{impl.InPick, 0, 1, 3, []int{7, 7, 0, 65535}},
		{impl.InPick, 0, 2, 1, []int{0, 7, 0, 65535}},
		{impl.InPick, 2, 3, 2, []int{5, 7, 0, 65535}},
		{impl.InPick, 3, 0, 3, []int{5, 7, 0, 5}},
		{impl.InPick, 1, 1, 2, []int{5, 7, 0, 65535}},
		{impl.InZero, 2, 0, 0, []int{5, 7, 0, 65535}},
		{impl.InZero, 1, 32, 0, []int{5, 7, 0, 65535}},
		{impl.InJump, 0, 32, 0, []int{5, 7, 0, 65535}},
		{impl.InHalt, 0, 0, 0, []int{5, 7, 0, 65535}},
		{impl.InLoad, 0, 1, 0, []int{5, 7, 0, 65535}},
		{impl.InStore, 1, 0, 0, []int{5, 7, 0, 65535}},
		{impl.InBump, 3, 1, 0, []int{5, 7, 0, 65535}},
		{impl.InBarrier, 0, 0, 0, []int{5, 7, 0, 65535}},
	} {
		i := impl.Ins{Op: c.op, A: c.a, B: c.b, C: c.c}
		checkApplied(t, i, 19, []int{5, 7, 0, 65535}, c.want)
		if !insFacts()[c.op].local || isTransfer(i) || c.op == impl.InHalt {
			continue
		}
		checkStep(t, []impl.Ins{i}, impl.Lane{Thread: 19, Regs: []int{5, 7, 0, 65535}}, impl.Lane{Thread: 19, Pc: 1, Regs: c.want})
	}
}

// Every operation with all registers in its fields, one in several fields too.
func TestApplyInsOfAllFields(t *testing.T) {
	for _, fact := range insFacts() {
		for n := range 64 {
			for _, regs := range regLists() {
				thread := someThreads()[n%10]
				i := insWithFields(fact, n, n%33)
				want := regs
				if fact.local {
					want = stepByMachine([]impl.Ins{i}, impl.Lane{Thread: thread, Regs: regs}).Regs
				}
				checkApplied(t, i, thread, regs, want)
			}
		}
	}
}

func TestApplyInsOfEdgeWords(t *testing.T) {
	for _, a := range edgeWords() {
		checkApplied(t, impl.Ins{Op: impl.InSet, A: 1, B: a}, 0, []int{1, 2, 3, 4}, []int{1, a, 3, 4})
		for _, b := range edgeWords() {
			for _, c := range []struct {
				op   int
				want int
			}{
				{impl.InAdd, (a + b) % 65536},
				{impl.InSub, (a - b + 65536) % 65536},
				{impl.InMul, a * b % 65536},
				{impl.InXor, (a | b) - (a & b)},
				{impl.InLess, map[bool]int{true: 1}[a < b]},
			} {
				i := impl.Ins{Op: c.op, A: 2, B: 3, C: 0}
				checkApplied(t, i, 0, []int{b, 6, 9, a}, []int{b, 6, c.want, a})
			}
		}
	}
}

func TestApplyInsOfThreads(t *testing.T) {
	for thread := range 24 {
		for a := range 4 {
			want := []int{101, 102, 103, 104}
			want[a] = thread
			checkApplied(t, impl.Ins{Op: impl.InSelf, A: a}, thread, []int{101, 102, 103, 104}, want)
		}
	}
	for _, fact := range insFacts() {
		for _, bad := range notThreads() {
			checkApplied(t, impl.Ins{Op: fact.op}, bad, []int{1, 2, 3, 4}, nil)
		}
	}
}

func TestApplyInsOfPick(t *testing.T) {
	for _, condition := range edgeWords() {
		want := []int{3, 4, condition, 9}
		if condition != 0 {
			want[0] = 4
		}
		checkApplied(t, impl.Ins{Op: impl.InPick, A: 0, B: 1, C: 2}, 0, []int{3, 4, condition, 9}, want)
	}
}

// Targets up to MaxCode are accepted, because no program is given.
func TestApplyInsOfTargets(t *testing.T) {
	for b := -3; b < 70; b++ {
		for _, i := range []impl.Ins{zero(b), jump(b)} {
			var want []int
			if b >= 0 && b <= 32 {
				want = []int{1, 0, 3, 4}
			}
			checkApplied(t, i, 4, []int{1, 0, 3, 4}, want)
		}
	}
}

func TestApplyInsOfInvalidArguments(t *testing.T) {
	for _, i := range brokenIns(32) {
		checkApplied(t, i, 4, []int{1, 2, 3, 4}, nil)
	}
	for _, fact := range insFacts() {
		for _, regs := range notRegLists() {
			checkApplied(t, impl.Ins{Op: fact.op}, 4, regs, nil)
		}
		for place, letter := range fact.fields {
			for _, bad := range notRegs() {
				fields := [3]int{}
				fields[place] = bad
				i := impl.Ins{Op: fact.op, A: fields[0], B: fields[1], C: fields[2]}
				if !fitsField(byte(letter), bad, 32) {
					checkApplied(t, i, 4, []int{1, 2, 3, 4}, nil)
				}
			}
		}
	}
}

// Promise 10: an instruction changes only the register that it writes.
func TestOnlyTheWrittenRegisterChanges(t *testing.T) {
	for _, fact := range insFacts() {
		for n := range 64 {
			for _, regs := range regLists() {
				i := insWithFields(fact, n, n%5)
				p := []impl.Ins{{}, i, {}, {}}
				l, _ := impl.LocalStep(p, impl.Lane{Thread: 9, Pc: 1, Regs: regs})
				applied := impl.ApplyIns(i, 9, regs)
				if len(applied) != 4 || len(l.Regs) != 4 || !impl.AreWords(applied) || l.Thread != 9 {
					t.Fatalf("%v makes %v and %v of %v", i, applied, l, regs)
				}
				for reg := range 4 {
					changed := applied[reg] != regs[reg] || l.Regs[reg] != regs[reg]
					if changed && (impl.WritesReg(i) != reg || fact.op == impl.InLoad) {
						t.Errorf("%v makes %v and %v of %v", i, applied, l, regs)
					}
				}
			}
		}
	}
}

// What an instruction leaves in its register depends only on the registers that
// it reads.
func TestOnlyReadRegistersCount(t *testing.T) {
	for _, fact := range insFacts() {
		for n := range 64 {
			i := insWithFields(fact, n, n%33)
			if impl.WritesReg(i) == -1 || !fact.local {
				continue
			}
			for _, regs := range regLists() {
				before := impl.ApplyIns(i, 9, regs)
				for reg := range 4 {
					other := slices.Clone(regs)
					other[reg] = (other[reg] + 77) % 65536
					after := impl.ApplyIns(i, 9, other)
					if !slices.Contains(impl.ReadsRegs(i), reg) && before[i.A] != after[i.A] {
						t.Errorf("%v makes %v of %v and %v of %v", i, before, regs, after, other)
					}
				}
			}
		}
	}
}

// traces are the lanes that threads have one after the other, written by hand.
func traces() map[string][]impl.Lane {
	return map[string][]impl.Lane{
		"doubling 2": {
			{Thread: 2, Pc: 0, Regs: []int{0, 0, 0, 0}}, {Thread: 2, Pc: 1, Regs: []int{2, 0, 0, 0}}, {Thread: 2, Pc: 2, Regs: []int{2, 3, 0, 0}},
			{Thread: 2, Pc: 3, Regs: []int{2, 3, 1, 0}}, {Thread: 2, Pc: 4, Regs: []int{2, 3, 1, 0}}, {Thread: 2, Pc: 5, Regs: []int{5, 3, 1, 0}},
			{Thread: 2, Pc: 7, Regs: []int{5, 3, 1, 0}}, {Thread: 2, Pc: 8, Regs: []int{5, 3, 1, 9}},
		},
		"doubling 23": {
			{Thread: 23, Pc: 0, Regs: []int{0, 0, 0, 0}}, {Thread: 23, Pc: 1, Regs: []int{23, 0, 0, 0}}, {Thread: 23, Pc: 2, Regs: []int{23, 3, 0, 0}},
			{Thread: 23, Pc: 3, Regs: []int{23, 3, 0, 0}}, {Thread: 23, Pc: 6, Regs: []int{23, 3, 0, 0}}, {Thread: 23, Pc: 7, Regs: []int{46, 3, 0, 0}},
			{Thread: 23, Pc: 8, Regs: []int{46, 3, 0, 9}},
		},
		"counting 0": {
			{Thread: 0, Pc: 0, Regs: []int{0, 0, 0, 0}}, {Thread: 0, Pc: 1, Regs: []int{0, 0, 0, 0}}, {Thread: 0, Pc: 2, Regs: []int{0, 1, 0, 0}},
			{Thread: 0, Pc: 6, Regs: []int{0, 1, 0, 0}}, {Thread: 0, Pc: 7, Regs: []int{0, 1, 0, 0}},
		},
		"counting 2": {
			{Thread: 2, Pc: 0, Regs: []int{0, 0, 0, 0}}, {Thread: 2, Pc: 1, Regs: []int{2, 0, 0, 0}}, {Thread: 2, Pc: 2, Regs: []int{2, 1, 0, 0}},
			{Thread: 2, Pc: 3, Regs: []int{2, 1, 0, 0}}, {Thread: 2, Pc: 4, Regs: []int{1, 1, 0, 0}}, {Thread: 2, Pc: 5, Regs: []int{1, 1, 1, 0}},
			{Thread: 2, Pc: 2, Regs: []int{1, 1, 1, 0}}, {Thread: 2, Pc: 3, Regs: []int{1, 1, 1, 0}}, {Thread: 2, Pc: 4, Regs: []int{0, 1, 1, 0}},
			{Thread: 2, Pc: 5, Regs: []int{0, 1, 2, 0}}, {Thread: 2, Pc: 2, Regs: []int{0, 1, 2, 0}}, {Thread: 2, Pc: 6, Regs: []int{0, 1, 2, 0}},
			{Thread: 2, Pc: 7, Regs: []int{0, 1, 2, 2}},
		},
		"sharing 3": {{Thread: 3, Pc: 0, Regs: []int{0, 0, 0, 0}}, {Thread: 3, Pc: 1, Regs: []int{3, 0, 0, 0}}},
	}
}

func TestLocalStepExamples(t *testing.T) {
	programs := map[string][]impl.Ins{
		"doubling 2": doubling(), "doubling 23": doubling(), "counting 0": counting(), "counting 2": counting(), "sharing 3": sharing(),
	}
	for name, lanes := range traces() {
		p := programs[name]
		for place, l := range lanes[1:] {
			checkStep(t, p, lanes[place], l)
		}
		last := lanes[len(lanes)-1]
		checkLane(t, p, last, true, last.Pc == len(p))
		checkNoStep(t, p, last)
	}
}

// Every lane of every program is followed for a while.
func TestLocalStepOfAnyProgram(t *testing.T) {
	for _, p := range validPrograms() {
		for _, start := range lanesAt(p) {
			l, ok := start, true
			for steps := 0; ok && steps < 7; steps++ {
				if !canStep(p, l) {
					checkNoStep(t, p, l)
					break
				}
				checkStep(t, p, l, stepByMachine(p, l))
				l, ok = impl.LocalStep(p, l)
				checkLane(t, p, l, true, l.Pc == len(p))
			}
		}
	}
}

// A lane goes on at a successor of its node, with the registers of ApplyIns.
func TestLocalStepFollowsTheFlow(t *testing.T) {
	for _, p := range validPrograms() {
		for _, l := range lanesAt(p) {
			next, ok := impl.LocalStep(p, l)
			if ok != canStep(p, l) {
				t.Fatalf("LocalStep(%v, %v) = %v, %v", p, l, next, ok)
			}
			if ok && (!slices.Contains(impl.NextOf(p, l.Pc), next.Pc) || !slices.Equal(next.Regs, impl.ApplyIns(p[l.Pc], l.Thread, l.Regs))) {
				t.Errorf("LocalStep(%v, %v) = %v", p, l, next)
			}
		}
	}
}

// InZero, InJump and InHalt at each place, with each target: backwards, to
// itself, to the next instruction and to the exit.
func TestLocalStepOfTransfers(t *testing.T) {
	for _, size := range []int{1, 2, 5, 31, 32} {
		for place := range size {
			l := impl.Lane{Thread: 6, Pc: place, Regs: []int{8, 0, 65535, 1}}
			p := nops(size)
			for b := range size + 1 {
				p[place] = jump(b)
				checkStep(t, p, l, impl.Lane{Thread: 6, Pc: b, Regs: l.Regs})
				for a := range 4 {
					p[place] = impl.Ins{Op: impl.InZero, A: a, B: b}
					next := map[bool]int{true: b, false: place + 1}[a == 1]
					checkStep(t, p, l, impl.Lane{Thread: 6, Pc: next, Regs: l.Regs})
				}
			}
			p[place] = halt()
			checkStep(t, p, l, impl.Lane{Thread: 6, Pc: size, Regs: l.Regs})
		}
	}
}

// Only 0 itself counts as 0, and only in the register A.
func TestLocalStepOfZero(t *testing.T) {
	for a := range 4 {
		for _, word := range edgeWords() {
			for _, others := range []int{0, 1, 65535} {
				regs := slices.Repeat([]int{others}, 4)
				regs[a] = word
				next := 2
				if word == 0 {
					next = 0
				}
				p := []impl.Ins{{}, {Op: impl.InZero, A: a, B: 0}, {}}
				checkStep(t, p, impl.Lane{Thread: 1, Pc: 1, Regs: regs}, impl.Lane{Thread: 1, Pc: next, Regs: regs})
			}
		}
	}
}

// Each operation at the first, a middle and the last place: behind the last
// instruction the thread ends.
func TestLocalStepOfEachOperation(t *testing.T) {
	for _, fact := range insFacts() {
		for _, size := range []int{1, 2, 3, 32} {
			for _, place := range []int{0, size / 2, size - 1} {
				for n := range 64 {
					p := nops(size)
					p[place] = insWithFields(fact, n, n%(size+1))
					l := impl.Lane{Thread: 23, Pc: place, Regs: []int{n, 0, 65535, 258}}
					if !fact.local {
						checkNoStep(t, p, l)
						continue
					}
					checkStep(t, p, l, stepByMachine(p, l))
				}
			}
		}
	}
}

func TestLocalStepOfEndedLanes(t *testing.T) {
	for _, p := range validPrograms() {
		for thread := range 24 {
			for _, regs := range [][]int{{0, 0, 0, 0}, {1, 2, 3, 4}, {65535, 0, 65535, 0}} {
				checkNoStep(t, p, impl.Lane{Thread: thread, Pc: len(p), Regs: regs})
			}
		}
	}
	for thread := range 24 {
		checkLane(t, nil, impl.LaneNew(thread), true, true)
		checkLane(t, []impl.Ins{}, impl.LaneNew(thread), true, true)
		checkNoStep(t, nil, impl.LaneNew(thread))
		checkNoStep(t, []impl.Ins{}, impl.LaneNew(thread))
	}
}

func TestLocalStepOfBrokenLanes(t *testing.T) {
	for _, p := range [][]impl.Ins{nil, {}, nops(1), doubling(), counting(), sharing(), numbered(31), nops(32), {halt()}, {jump(0)}, {zero(1)}} {
		for _, l := range brokenLanes(len(p)) {
			checkLane(t, p, l, false, false)
			checkNoStep(t, p, l)
		}
	}
}

// guardedRegs returns registers with marked spare capacity behind them.
func guardedRegs(regs []int) (list []int, whole []int) {
	whole = slices.Concat(regs, slices.Repeat([]int{9001}, 12))
	return whole[:len(regs)], whole
}

// overwrite changes a list and its spare capacity.
func overwrite(list []int) {
	list = append(list, 9002)
	for place := range list[:cap(list)] {
		list[:cap(list)][place] = 9003
	}
}

func TestLaneNewReturnsNewMemory(t *testing.T) {
	for _, thread := range append(notThreads(), someThreads()...) {
		first, second := impl.LaneNew(thread), impl.LaneNew(thread)
		overwrite(first.Regs)
		if slices.ContainsFunc(second.Regs, func(word int) bool { return word != 0 }) || !sameLane(impl.LaneNew(thread), second) {
			t.Errorf("two results of LaneNew(%d) share memory", thread)
		}
	}
}

// checkMemory checks that a function of registers, called twice, leaves them and
// their spare capacity, and that its results share no memory.
func checkMemory(t *testing.T, original []int, function func(regs []int) []int) {
	t.Helper()
	regs, whole := guardedRegs(original)
	before := slices.Clone(whole)
	first, second := function(regs), function(regs)
	want := slices.Clone(second)
	overwrite(first)
	if !slices.Equal(whole, before) {
		t.Fatalf("the registers %v became %v", before, whole)
	}
	if !slices.Equal(second, want) {
		t.Fatalf("two results for %v share memory", original)
	}
	overwrite(regs)
	if !slices.Equal(second, want) {
		t.Fatalf("a change of the registers %v changes the result", original)
	}
}

// Neither the calls nor a change of their results change the registers or their
// spare capacity, also where these are returned unchanged.
func TestApplyInsReturnsNewMemory(t *testing.T) {
	for _, fact := range insFacts() {
		for _, regs := range slices.Concat(regLists(), notRegLists()) {
			for n := range 64 {
				i := insWithFields(fact, n, 1)
				checkMemory(t, regs, func(regs []int) []int { return impl.ApplyIns(i, 3, regs) })
			}
		}
	}
}

func TestLocalStepReturnsNewMemory(t *testing.T) {
	for _, original := range [][]impl.Ins{nil, doubling(), counting(), sharing(), nops(33), {{Op: 17}}, {halt()}, {jump(0)}} {
		p, whole := guarded(original)
		before := slices.Clone(whole)
		for _, l := range slices.Concat(lanesAt(original), brokenLanes(len(original))) {
			checkMemory(t, l.Regs, func(regs []int) []int {
				next, _ := impl.LocalStep(p, impl.Lane{Thread: l.Thread, Pc: l.Pc, Regs: regs})
				return next.Regs
			})
			guardedLane := l
			guardedLane.Regs, _ = guardedRegs(l.Regs)
			checkLane(t, p, guardedLane, impl.LaneOk(original, l), impl.LaneEnded(original, l))
		}
		if !slices.Equal(whole, before) {
			t.Errorf("the program %v was changed to %v", original, whole)
		}
	}
}

// A lane of another call is not remembered: each call starts anew.
func TestLanesAreNotKept(t *testing.T) {
	for range 3 {
		TestLocalStepExamples(t)
		TestApplyInsExamples(t)
	}
}
