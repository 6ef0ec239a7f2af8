package tests

import (
	"math"
	"slices"
	"testing"

	"loop.example/g00985/impl"
)

// ending is what the document requires of a thread that runs alone up to its end.
type ending struct {
	p      []impl.Ins
	thread int
	steps  int
	regs   []int
}

// self, set, sub and add return instructions of the programs below.
func self(a int) impl.Ins { return impl.Ins{Op: impl.InSelf, A: a} }

func set(a int, b int) impl.Ins { return impl.Ins{Op: impl.InSet, A: a, B: b} }

func sub(a int, b int, c int) impl.Ins { return impl.Ins{Op: impl.InSub, A: a, B: b, C: c} }

func add(a int, b int, c int) impl.Ins { return impl.Ins{Op: impl.InAdd, A: a, B: b, C: c} }

// backing is a program in which threads jump backwards out of a part that they
// enter from behind.
func backing() []impl.Ins {
	return []impl.Ins{jump(4), set(1, 7), add(2, 1, 1), jump(5), jump(1), set(3, 1)}
}

// squaring is a program with a loop inside a loop: threads add up the square of
// their number.
func squaring() []impl.Ins {
	return []impl.Ins{
		self(0),
		set(3, 1),
		self(1),
		{Op: impl.InZero, A: 0, B: 12},
		{Op: impl.InZero, A: 1, B: 8},
		add(2, 2, 3),
		sub(1, 1, 3),
		jump(4),
		sub(0, 0, 3),
		self(1),
		jump(3),
		halt(),
		{Op: impl.InMove, A: 1, B: 2},
	}
}

// endings are ends of threads that were worked out by hand.
func endings() []ending {
	nop := impl.Ins{}
	straight := []impl.Ins{self(0), add(1, 0, 0), {Op: impl.InMul, A: 2, B: 1, C: 0}, {Op: impl.InLess, A: 3, B: 0, C: 1}}
	picking := []impl.Ins{self(0), set(1, 65535), {Op: impl.InXor, A: 2, B: 0, C: 1}, {Op: impl.InPick, A: 3, B: 2, C: 0}, halt(), set(0, 9)}
	return []ending{
		{nil, 0, 0, []int{0, 0, 0, 0}},
		{[]impl.Ins{}, 23, 0, []int{0, 0, 0, 0}},
		{[]impl.Ins{nop}, 1, 1, []int{0, 0, 0, 0}},
		{nops(32), 9, 32, []int{0, 0, 0, 0}},
		{numbered(32), 9, 32, []int{28, 29, 30, 31}},
		{straight, 0, 4, []int{0, 0, 0, 0}},
		{straight, 5, 4, []int{5, 10, 50, 1}},
		{straight, 23, 4, []int{23, 46, 1058, 1}},
		{picking, 0, 5, []int{0, 65535, 65535, 0}},
		{picking, 6, 5, []int{6, 65535, 65529, 65529}},
		{[]impl.Ins{halt()}, 0, 1, []int{0, 0, 0, 0}},
		{[]impl.Ins{halt(), set(0, 1)}, 23, 1, []int{0, 0, 0, 0}},
		{[]impl.Ins{set(0, 1), set(1, 2), halt()}, 4, 3, []int{1, 2, 0, 0}},
		{[]impl.Ins{set(0, 1), halt(), set(1, 2), halt()}, 4, 2, []int{1, 0, 0, 0}},
		{[]impl.Ins{jump(1)}, 0, 1, []int{0, 0, 0, 0}},
		{[]impl.Ins{jump(3), set(0, 1), set(1, 2)}, 7, 1, []int{0, 0, 0, 0}},
		{[]impl.Ins{jump(2), set(0, 1), set(1, 2)}, 7, 2, []int{0, 2, 0, 0}},
		{[]impl.Ins{zero(1)}, 7, 1, []int{0, 0, 0, 0}},
		{[]impl.Ins{zero(2), halt(), set(3, 6)}, 7, 2, []int{0, 0, 0, 6}},
		{[]impl.Ins{self(1), zero(3), halt(), set(3, 6)}, 0, 3, []int{0, 0, 0, 6}},
		{[]impl.Ins{self(1), zero(3), halt(), set(3, 6)}, 1, 3, []int{0, 1, 0, 0}},
		{[]impl.Ins{set(1, 1), zero(0), set(2, 3)}, 7, 3, []int{0, 1, 3, 0}},
		{backing(), 11, 6, []int{0, 7, 14, 1}},
		{doubling(), 0, 7, []int{3, 3, 1, 9}},
		{doubling(), 2, 7, []int{5, 3, 1, 9}},
		{doubling(), 3, 6, []int{6, 3, 0, 9}},
		{doubling(), 23, 6, []int{46, 3, 0, 9}},
		{counting(), 0, 4, []int{0, 1, 0, 0}},
		{counting(), 1, 8, []int{0, 1, 1, 1}},
		{counting(), 2, 12, []int{0, 1, 2, 2}},
		{counting(), 23, 96, []int{0, 1, 23, 23}},
		{squaring(), 0, 5, []int{0, 0, 0, 1}},
		{squaring(), 1, 14, []int{0, 1, 1, 1}},
		{squaring(), 2, 31, []int{0, 4, 4, 1}},
		{squaring(), 14, 859, []int{0, 196, 196, 1}},
		{squaring(), 15, 980, []int{0, 225, 225, 1}},
		{lasting(1000), 0, 1000, []int{0, 1, 0, 0}},
		{lasting(999), 23, 999, []int{0, 1, 0, 0}},
	}
}

// lasting returns a program whose threads end after that many steps, at least 3:
// two to begin, three of each round, one to leave the loop, and up to two more.
func lasting(steps int) []impl.Ins {
	p := []impl.Ins{set(0, (steps-3)/3), set(1, 1), {Op: impl.InZero, A: 0, B: 5}, sub(0, 0, 1), jump(2)}
	return append(p, nops((steps-3)%3)...)
}

// slowing returns a program whose thread n ends after 5 steps and three more of
// each of n*factor rounds.
func slowing(factor int) []impl.Ins {
	return []impl.Ins{self(0), set(1, factor), {Op: impl.InMul, A: 0, B: 0, C: 1}, set(1, 1), {Op: impl.InZero, A: 0, B: 7}, sub(0, 0, 1), jump(4)}
}

// without returns a program in which one thread, and no other, never ends. All
// others end with their number plus 3 after 6 steps.
func without(thread int) []impl.Ins {
	return []impl.Ins{self(0), set(1, thread), {Op: impl.InXor, A: 1, B: 0, C: 1}, zero(3), set(2, 3), add(0, 0, 2)}
}

// endless are programs that no thread ends.
func endless() [][]impl.Ins {
	around := nops(32)
	around[31] = jump(0)
	return [][]impl.Ins{
		{jump(0)},
		{{}, jump(1), {}},
		{jump(2), halt(), jump(2)},
		{jump(1), jump(2), jump(0)},
		{self(0), set(1, 5), add(0, 0, 1), jump(1), halt()},
		{zero(0)},
		{set(1, 1), zero(3), jump(0)},
		// The register 1 is 0 again only after 65536 rounds.
		{set(0, 1), add(1, 1, 0), zero(4), jump(1)},
		around,
	}
}

// noisy are programs with an instruction that is not local, reached or not.
func noisy() [][]impl.Ins {
	list := [][]impl.Ins{sharing()}
	for _, i := range []impl.Ins{{Op: impl.InLoad, A: 1, B: 2}, {Op: impl.InStore, A: 1, B: 2}, {Op: impl.InBump, A: 1, B: 2}, {Op: impl.InBarrier}} {
		list = append(list, []impl.Ins{i}, []impl.Ins{i, {}, {}}, []impl.Ins{{}, {}, i}, []impl.Ins{halt(), i}, []impl.Ins{jump(2), i}, []impl.Ins{jump(2), i, set(0, 1)})
	}
	return list
}

// notSteps returns numbers that are no limit of steps.
func notSteps() []int {
	return []int{-1, -2, -1000, -1001, 1001, 1002, 2000, 65536, -1 << 32, 1 << 32, 1<<32 + 5, math.MinInt, math.MinInt + 1, math.MaxInt - 1, math.MaxInt}
}

// runByMachine returns what at most steps instructions of a quiet program make of
// a lane, performed as chapter 4 describes them, and their number.
func runByMachine(p []impl.Ins, l impl.Lane, steps int) (impl.Lane, int) {
	m := machine{pc: l.Pc, regs: [4]int(l.Regs)}
	done := 0
	for done < steps && m.pc != len(p) {
		m.perform(p[m.pc], l.Thread, len(p))
		done++
	}
	return impl.Lane{Thread: l.Thread, Pc: m.pc, Regs: m.regs[:]}, done
}

// endByMachine returns the lane of a thread after 1000 instructions or fewer,
// their number, and whether it has ended then.
func endByMachine(p []impl.Ins, thread int) (impl.Lane, int, bool) {
	l, steps := runByMachine(p, impl.Lane{Thread: thread, Regs: make([]int, 4)}, 1000)
	return l, steps, l.Pc == len(p)
}

// quietPrograms returns programs of local instructions, with and without an end.
func quietPrograms() [][]impl.Ins {
	list := slices.Concat(anyPrograms(impl.InHalt), anyFlows(), programsOf(longFlows()), endless())
	for _, e := range endings() {
		list = append(list, e.p)
	}
	for thread := range 24 {
		list = append(list, without(thread))
	}
	return append(list, slowing(14), slowing(15), lasting(1001))
}

// fewLanesAt returns some of the valid lanes of a program.
func fewLanesAt(p []impl.Ins) []impl.Lane {
	list := []impl.Lane{}
	for n, l := range lanesAt(p) {
		if n%17 == 0 {
			list = append(list, l)
		}
	}
	return append(list, impl.LaneNew(0), impl.LaneNew(3), impl.LaneNew(23))
}

func checkRun(t *testing.T, p []impl.Ins, l impl.Lane, steps int, want impl.Lane, count int) {
	t.Helper()
	if got, n := impl.RunLane(p, l, steps); n != count || !sameLane(got, want) {
		t.Errorf("RunLane(%v, %v, %d) = %v, %d, not %v, %d", p, l, steps, got, n, want, count)
	}
}

func checkEnd(t *testing.T, e ending) {
	t.Helper()
	want := impl.Lane{Thread: e.thread, Pc: len(e.p), Regs: e.regs}
	if got, ok := impl.RunAlone(e.p, e.thread); !ok || !sameLane(got, want) {
		t.Errorf("RunAlone(%v, %d) = %v, %v, not %v", e.p, e.thread, got, ok, want)
	}
	if got := impl.StepsAlone(e.p, e.thread); got != e.steps {
		t.Errorf("StepsAlone(%v, %d) = %d, not %d", e.p, e.thread, got, e.steps)
	}
}

func checkNoEnd(t *testing.T, p []impl.Ins, thread int) {
	t.Helper()
	if got, ok := impl.RunAlone(p, thread); ok || !sameLane(got, impl.Lane{}) {
		t.Errorf("RunAlone(%v, %d) = %v, %v", p, thread, got, ok)
	}
	if got := impl.StepsAlone(p, thread); got != -1 {
		t.Errorf("StepsAlone(%v, %d) = %d", p, thread, got)
	}
}

// checkAlone checks the end of a thread in a quiet program by the machine.
func checkAlone(t *testing.T, p []impl.Ins, thread int) {
	t.Helper()
	if l, steps, ends := endByMachine(p, thread); ends {
		checkEnd(t, ending{p, thread, steps, l.Regs})
	} else {
		checkNoEnd(t, p, thread)
	}
}

func checkRegs(t *testing.T, p []impl.Ins, first int, count int, want []int) {
	t.Helper()
	if got, ok := impl.EndRegs(p, first, count); !ok || !slices.Equal(got, want) {
		t.Errorf("EndRegs(%v, %d, %d) = %v, %v, not %v", p, first, count, got, ok, want)
	}
}

func checkNoRegs(t *testing.T, p []impl.Ins, first int, count int) {
	t.Helper()
	if got, ok := impl.EndRegs(p, first, count); ok || len(got) != 0 {
		t.Errorf("EndRegs(%v, %d, %d) = %v, %v", p, first, count, got, ok)
	}
}

func TestMaxSteps(t *testing.T) {
	if impl.MaxSteps != 1000 {
		t.Errorf("MaxSteps = %d", impl.MaxSteps)
	}
}

// Threads that end, with all limits around the number of their steps.
func TestAloneExamples(t *testing.T) {
	for _, e := range endings() {
		checkEnd(t, e)
		checkRegs(t, e.p, e.thread, 1, e.regs)
		begun, ended := impl.LaneNew(e.thread), impl.Lane{Thread: e.thread, Pc: len(e.p), Regs: e.regs}
		for _, steps := range []int{e.steps, e.steps + 1, e.steps + 40, 1000} {
			if steps <= 1000 {
				checkRun(t, e.p, begun, steps, ended, e.steps)
			}
			checkRun(t, e.p, ended, min(steps, 1000), ended, 0)
		}
		checkRun(t, e.p, begun, 0, begun, 0)
		if l, n := impl.RunLane(e.p, begun, max(e.steps-1, 0)); n != max(e.steps-1, 0) || e.steps > 0 && l.Pc == len(e.p) {
			t.Errorf("thread %d of %v has the lane %v after %d steps", e.thread, e.p, l, n)
		}
	}
}

// The lanes of the traces, written by hand, one after the other.
func TestRunLaneOfTraces(t *testing.T) {
	for name, p := range map[string][]impl.Ins{"doubling 2": doubling(), "doubling 23": doubling(), "counting 0": counting(), "counting 2": counting()} {
		lanes := traces()[name]
		for from := range lanes {
			for to := from; to < len(lanes); to++ {
				checkRun(t, p, lanes[from], to-from, lanes[to], to-from)
			}
			rest := len(lanes) - 1 - from
			for _, steps := range []int{rest + 1, rest + 2, 999, 1000} {
				checkRun(t, p, lanes[from], steps, lanes[from+rest], rest)
			}
		}
	}
}

// Runs that begin in the middle of a program, with other registers than a new
// lane has.
func TestRunLaneFromTheMiddle(t *testing.T) {
	for _, c := range []struct {
		p     []impl.Ins
		pc    int
		regs  []int
		steps int
		want  impl.Lane
		count int
	}{
		{doubling(), 4, []int{100, 7, 1, 65535}, 1000, impl.Lane{Pc: 8, Regs: []int{107, 7, 1, 9}}, 3},
		{doubling(), 4, []int{65535, 7, 1, 65535}, 1, impl.Lane{Pc: 5, Regs: []int{6, 7, 1, 65535}}, 1},
		{doubling(), 6, []int{40000, 7, 0, 5}, 1, impl.Lane{Pc: 7, Regs: []int{14464, 7, 0, 5}}, 1},
		{doubling(), 6, []int{40000, 7, 0, 5}, 2, impl.Lane{Pc: 8, Regs: []int{14464, 7, 0, 9}}, 2},
		{doubling(), 3, []int{2, 3, 65535, 0}, 1000, impl.Lane{Pc: 8, Regs: []int{5, 3, 65535, 9}}, 4},
		{doubling(), 3, []int{2, 3, 0, 0}, 1000, impl.Lane{Pc: 8, Regs: []int{4, 3, 0, 9}}, 3},
		{doubling(), 8, []int{1, 2, 3, 4}, 1000, impl.Lane{Pc: 8, Regs: []int{1, 2, 3, 4}}, 0},
		{doubling(), 8, []int{1, 2, 3, 4}, 0, impl.Lane{Pc: 8, Regs: []int{1, 2, 3, 4}}, 0},
		{counting(), 3, []int{6, 2, 10, 0}, 1000, impl.Lane{Pc: 7, Regs: []int{0, 2, 16, 16}}, 13},
		{counting(), 3, []int{6, 2, 10, 0}, 5, impl.Lane{Pc: 4, Regs: []int{2, 2, 12, 0}}, 5},
		{counting(), 2, []int{249, 1, 65535, 4}, 1000, impl.Lane{Pc: 7, Regs: []int{0, 1, 248, 248}}, 998},
		{counting(), 2, []int{250, 1, 65535, 4}, 1000, impl.Lane{Pc: 2, Regs: []int{0, 1, 249, 4}}, 1000},
		{counting(), 2, []int{7, 0, 65535, 4}, 1000, impl.Lane{Pc: 2, Regs: []int{7, 0, 65535, 4}}, 1000},
		{counting(), 5, []int{0, 0, 5, 4}, 3, impl.Lane{Pc: 7, Regs: []int{0, 0, 5, 5}}, 3},
		{counting(), 0, []int{9, 9, 9, 9}, 1000, impl.Lane{Pc: 7, Regs: []int{0, 1, 27, 27}}, 76},
		{[]impl.Ins{halt(), self(2), halt(), {}}, 1, []int{1, 2, 3, 4}, 1000, impl.Lane{Pc: 4, Regs: []int{1, 2, 18, 4}}, 2},
		{[]impl.Ins{jump(0), jump(2), halt()}, 1, []int{1, 2, 3, 4}, 1000, impl.Lane{Pc: 3, Regs: []int{1, 2, 3, 4}}, 2},
		{[]impl.Ins{add(0, 0, 1), jump(0)}, 1, []int{65000, 2, 3, 4}, 1000, impl.Lane{Pc: 1, Regs: []int{464, 2, 3, 4}}, 1000},
	} {
		c.want.Thread = 18
		checkRun(t, c.p, impl.Lane{Thread: 18, Pc: c.pc, Regs: c.regs}, c.steps, c.want, c.count)
	}
}

// Each run of each program, up to its end or the limit.
func TestRunLaneOfAnyProgram(t *testing.T) {
	for _, p := range slices.Concat(quietPrograms(), smallFlows()) {
		for _, l := range fewLanesAt(p) {
			for _, steps := range []int{0, 1, 2, 3, 10, 33, 999, 1000} {
				want, count := runByMachine(p, l, steps)
				checkRun(t, p, l, steps, want, count)
			}
		}
	}
}

// RunLane is LocalStep, one after the other.
func TestRunLaneIsLocalStep(t *testing.T) {
	for _, p := range quietPrograms() {
		for _, l := range fewLanesAt(p) {
			stepped, count := l, 0
			for steps := range 40 {
				checkRun(t, p, l, steps, stepped, count)
				if next, ok := impl.LocalStep(p, stepped); ok {
					stepped, count = next, count+1
				}
			}
		}
	}
}

func TestAloneOfAnyProgram(t *testing.T) {
	for _, p := range slices.Concat(quietPrograms(), smallFlows()) {
		for thread := range 24 {
			checkAlone(t, p, thread)
		}
	}
}

// Promise 11: a run of a lane can be stopped, after any number of steps, and
// continued.
func TestRunsCanBeStoppedAndContinued(t *testing.T) {
	for _, p := range quietPrograms() {
		for _, l := range fewLanesAt(p)[:5] {
			for _, all := range []int{0, 1, 2, 7, 30, 1000} {
				whole, count := impl.RunLane(p, l, all)
				for _, part := range []int{0, 1, 2, 3, 5, 7, 11, 29, 30, 500, 998, 999, 1000} {
					if part > all {
						continue
					}
					stopped, before := impl.RunLane(p, l, part)
					continued, after := impl.RunLane(p, stopped, all-part)
					if before+after != count || before != min(part, count) || !sameLane(continued, whole) {
						t.Fatalf("RunLane(%v, %v, %d) = %v, %d, but stopped after %d steps it ends with %v, %d", p, l, all, whole, count, part, continued, before+after)
					}
				}
			}
		}
	}
}

// Long runs that are stopped after each number of steps, and runs that are
// stopped after each step.
func TestLongRunsCanBeStoppedAnywhere(t *testing.T) {
	for _, e := range append(endings(), ending{p: lasting(1001)}, ending{p: []impl.Ins{jump(0)}}, ending{p: counting(), thread: 22}) {
		begun := impl.LaneNew(e.thread)
		whole, count := impl.RunLane(e.p, begun, 1000)
		for part := range 1001 {
			stopped, before := impl.RunLane(e.p, begun, part)
			continued, after := impl.RunLane(e.p, stopped, 1000-part)
			if before+after != count || !sameLane(continued, whole) {
				t.Errorf("thread %d of %v stopped after %d steps ends with %v, %d", e.thread, e.p, part, continued, before+after)
			}
		}
		l := begun
		for step := range 1000 {
			next, n := impl.RunLane(e.p, l, 1)
			if n != map[bool]int{true: 1}[step < count] {
				t.Fatalf("RunLane(%v, %v, 1) = %v, %d", e.p, l, next, n)
			}
			l = next
		}
		if !sameLane(l, whole) {
			t.Errorf("thread %d of %v, stopped after each step, ends with %v", e.thread, e.p, l)
		}
	}
}

// A run in several pieces can be longer than one in one piece.
func TestRunsCanGoOnBehindTheLimit(t *testing.T) {
	for _, steps := range []int{1001, 1002, 1500, 1999, 2000} {
		l, count := impl.RunLane(lasting(steps), impl.LaneNew(8), 1000)
		if count != 1000 || l.Pc == len(lasting(steps)) {
			t.Errorf("a run of %d steps stops with %v, %d", steps, l, count)
		}
		checkRun(t, lasting(steps), l, 1000, impl.Lane{Thread: 8, Pc: len(lasting(steps)), Regs: []int{0, 1, 0, 0}}, steps-1000)
		checkNoEnd(t, lasting(steps), 8)
	}
}

// A program may end with its last of 1000 steps, but needs no step more.
func TestLimitOfSteps(t *testing.T) {
	for steps := 3; steps <= 1100; steps++ {
		p := lasting(steps)
		if steps > 1000 {
			checkNoEnd(t, p, steps%24)
			checkNoRegs(t, p, steps%24, 1)
			continue
		}
		checkEnd(t, ending{p, steps % 24, steps, []int{0, 1, 0, 0}})
		checkRegs(t, p, steps%24, 1, []int{0, 1, 0, 0})
		if steps%3 == 0 {
			// One instruction more is one step more.
			checkEnd(t, ending{append(p, halt()), 0, steps + 1, []int{0, 1, 0, 0}})
		}
	}
	for _, steps := range []int{998, 999, 1000, 1001} {
		p := lasting(steps)
		behind := len(p) + 1
		for _, last := range []impl.Ins{{}, halt(), set(1, 1), jump(behind), {Op: impl.InZero, A: 0, B: behind}, {Op: impl.InZero, A: 1, B: 0}} {
			if steps < 1000 {
				checkEnd(t, ending{append(p, last), 5, steps + 1, []int{0, 1, 0, 0}})
			} else {
				checkNoEnd(t, append(p, last), 5)
			}
		}
	}
}

func TestEndlessPrograms(t *testing.T) {
	for _, p := range endless() {
		for thread := range 24 {
			checkNoEnd(t, p, thread)
			checkNoRegs(t, p, thread, 1)
			for _, steps := range []int{0, 1, 2, 3, 500, 999, 1000} {
				want, _ := runByMachine(p, impl.LaneNew(thread), steps)
				checkRun(t, p, impl.LaneNew(thread), steps, want, steps)
			}
		}
		checkNoRegs(t, p, 0, 24)
	}
}

// A circle that all threads but one leave.
func TestOneEndlessThread(t *testing.T) {
	for lost := range 24 {
		p := without(lost)
		for first := range 24 {
			if first == lost {
				checkNoEnd(t, p, first)
				checkRun(t, p, impl.LaneNew(first), 1000, impl.Lane{Thread: first, Pc: 3, Regs: []int{first, 0, 0, 0}}, 1000)
			} else {
				checkEnd(t, ending{p, first, 6, []int{first + 3, first ^ lost, 3, 0}})
			}
			want := []int{}
			for count := 1; first+count <= 24; count++ {
				last := first + count - 1
				want = append(want, last+3, last^lost, 3, 0)
				if first <= lost && lost <= last {
					checkNoRegs(t, p, first, count)
				} else {
					checkRegs(t, p, first, count, want)
				}
			}
		}
	}
}

// Threads with many steps, the last ones of them with too many.
func TestSlowThreads(t *testing.T) {
	for factor := range 60 {
		for thread := range 24 {
			steps := 5 + 3*factor*thread
			if steps <= 1000 {
				checkEnd(t, ending{slowing(factor), thread, steps, []int{0, 1, 0, 0}})
			} else {
				checkNoEnd(t, slowing(factor), thread)
			}
		}
	}
	all := slices.Repeat([]int{0, 1, 0, 0}, 24)
	checkRegs(t, slowing(14), 0, 24, all)
	checkRegs(t, slowing(15), 0, 23, all[:92])
	checkNoRegs(t, slowing(15), 0, 24)
	checkNoRegs(t, slowing(15), 23, 1)
}

func TestEndRegsExamples(t *testing.T) {
	checkRegs(t, nil, 0, 1, []int{0, 0, 0, 0})
	checkRegs(t, nil, 23, 1, []int{0, 0, 0, 0})
	checkRegs(t, []impl.Ins{}, 0, 24, make([]int, 96))
	checkRegs(t, doubling(), 2, 1, []int{5, 3, 1, 9})
	checkRegs(t, doubling(), 1, 3, []int{4, 3, 1, 9, 5, 3, 1, 9, 6, 3, 0, 9})
	checkRegs(t, doubling(), 22, 2, []int{44, 3, 0, 9, 46, 3, 0, 9})
	checkRegs(t, counting(), 0, 3, []int{0, 1, 0, 0, 0, 1, 1, 1, 0, 1, 2, 2})
	checkRegs(t, counting(), 23, 1, []int{0, 1, 23, 23})
	checkRegs(t, squaring(), 3, 2, []int{0, 9, 9, 1, 0, 16, 16, 1})
	checkRegs(t, []impl.Ins{halt(), set(0, 1)}, 5, 2, make([]int, 8))
	checkRegs(t, []impl.Ins{self(3)}, 20, 4, []int{0, 0, 0, 20, 0, 0, 0, 21, 0, 0, 0, 22, 0, 0, 0, 23})
	checkRegs(t, squaring(), 0, 16, slices.Concat(
		[]int{0, 0, 0, 1, 0, 1, 1, 1, 0, 4, 4, 1, 0, 9, 9, 1, 0, 16, 16, 1, 0, 25, 25, 1, 0, 36, 36, 1, 0, 49, 49, 1},
		[]int{0, 64, 64, 1, 0, 81, 81, 1, 0, 100, 100, 1, 0, 121, 121, 1, 0, 144, 144, 1, 0, 169, 169, 1, 0, 196, 196, 1, 0, 225, 225, 1},
	))
	checkNoRegs(t, squaring(), 0, 17)
	checkNoRegs(t, squaring(), 16, 1)
}

// All threads of which there are so many, and not one more.
func TestEndRegsOfAllThreads(t *testing.T) {
	p := []impl.Ins{self(0), set(1, 100), add(1, 0, 1), {Op: impl.InMul, A: 2, B: 0, C: 0}, {Op: impl.InZero, A: 0, B: 6}, set(3, 7)}
	for first := -30; first < 60; first++ {
		want := []int{}
		for count := -30; count < 60; count++ {
			if count > 0 {
				thread := first + count - 1
				want = append(want, thread, thread+100, thread*thread, map[bool]int{false: 7}[thread == 0])
			}
			if count > 0 && count <= 24 && first >= 0 && first+count <= 24 {
				checkRegs(t, p, first, count, want)
			} else {
				checkNoRegs(t, p, first, count)
			}
		}
	}
}

func TestEndRegsOfAnyProgram(t *testing.T) {
	for n, p := range quietPrograms() {
		first := n % 24
		want, all := []int{}, true
		for count := 1; first+count <= 24; count++ {
			l, _, ends := endByMachine(p, first+count-1)
			want, all = append(want, l.Regs...), all && ends
			if all {
				checkRegs(t, p, first, count, want)
			} else {
				checkNoRegs(t, p, first, count)
			}
		}
	}
}

// checkNothingAlone checks that no thread runs in a program.
func checkNothingAlone(t *testing.T, p []impl.Ins) {
	t.Helper()
	for _, thread := range []int{0, 5, 23} {
		checkNoEnd(t, p, thread)
		checkNoRegs(t, p, thread, 1)
		for _, pc := range []int{0, len(p) / 2, len(p)} {
			l := impl.Lane{Thread: thread, Pc: pc, Regs: []int{1, 0, 3, 4}}
			for _, steps := range []int{-1, 0, 1, 1000, 1001} {
				checkRun(t, p, l, steps, l, -1)
			}
		}
	}
	checkNoRegs(t, p, 0, 24)
}

func TestAloneOfInvalidPrograms(t *testing.T) {
	for _, p := range invalidPrograms() {
		checkNothingAlone(t, p)
	}
}

// One instruction that is not local is enough, also where no lane reaches it or
// the lane has ended.
func TestAloneOfNoisyPrograms(t *testing.T) {
	for _, p := range noisy() {
		checkNothingAlone(t, p)
		for _, l := range fewLanesAt(p) {
			checkRun(t, p, l, 1, l, -1)
		}
	}
	for _, fact := range insFacts() {
		for place := range 5 {
			p := []impl.Ins{jump(5), jump(5), jump(5), jump(5), jump(5)}
			p[place] = impl.Ins{Op: fact.op}
			if !fact.local {
				checkNothingAlone(t, p)
				continue
			}
			for thread := range 24 {
				checkAlone(t, p, thread)
			}
		}
	}
}

func TestRunLaneOfBrokenLanes(t *testing.T) {
	for _, p := range append(noisy(), nil, []impl.Ins{}, nops(1), doubling(), counting(), numbered(31), nops(32), []impl.Ins{halt()}, []impl.Ins{jump(0)}, []impl.Ins{zero(1)}) {
		for _, l := range brokenLanes(len(p)) {
			for _, steps := range []int{-1, 0, 1, 2, 999, 1000, 1001} {
				checkRun(t, p, l, steps, l, -1)
			}
		}
	}
}

func TestRunLaneOfNoSteps(t *testing.T) {
	for _, p := range [][]impl.Ins{nil, {}, nops(1), doubling(), counting(), squaring(), nops(32), {halt()}, {jump(0)}} {
		for _, l := range lanesAt(p) {
			checkRun(t, p, l, 0, l, 0)
			for _, bad := range notSteps() {
				checkRun(t, p, l, bad, l, -1)
			}
		}
	}
	for steps := -1100; steps < 2200; steps++ {
		begun := impl.LaneNew(4)
		if steps < 0 || steps > 1000 {
			checkRun(t, []impl.Ins{jump(0)}, begun, steps, begun, -1)
			checkRun(t, nil, begun, steps, begun, -1)
		} else {
			checkRun(t, []impl.Ins{jump(0)}, begun, steps, begun, steps)
			checkRun(t, nil, begun, steps, begun, 0)
		}
	}
}

func TestAloneOfNoThreads(t *testing.T) {
	for _, p := range [][]impl.Ins{nil, {}, nops(1), doubling(), counting(), sharing(), nops(33), {halt()}, {jump(0)}} {
		for _, bad := range notThreads() {
			checkNoEnd(t, p, bad)
			for _, count := range []int{-1, 0, 1, 2, 24, 25} {
				checkNoRegs(t, p, bad, count)
			}
		}
	}
	for thread := -30; thread < 60; thread++ {
		if thread < 0 || thread > 23 {
			checkNoEnd(t, nil, thread)
			checkNoEnd(t, doubling(), thread)
		} else {
			checkEnd(t, ending{nil, thread, 0, []int{0, 0, 0, 0}})
			checkEnd(t, ending{[]impl.Ins{self(2)}, thread, 1, []int{0, 0, thread, 0}})
		}
	}
}

func TestEndRegsOfNoCounts(t *testing.T) {
	for _, p := range [][]impl.Ins{nil, {}, nops(1), doubling(), counting(), sharing(), nops(33), {halt()}, {jump(0)}} {
		for _, first := range slices.Concat(someThreads(), notThreads()) {
			for _, bad := range []int{0, -1, -2, -24, 25, 26, 48, 1000, -1 << 32, 1 << 32, 1<<32 + 1, math.MinInt, math.MinInt + 1, math.MaxInt - 1, math.MaxInt} {
				checkNoRegs(t, p, first, bad)
			}
			for count := 1; count <= 24; count++ {
				if first < 0 || first > 24-count {
					checkNoRegs(t, p, first, count)
				}
			}
		}
	}
}

// The functions change neither the program nor the spare capacity behind it, and
// do not look there.
func TestAloneLeavesPrograms(t *testing.T) {
	for _, original := range slices.Concat(quietPrograms(), noisy(), longPrograms()) {
		p, whole := guarded(original)
		before := slices.Clone(whole)
		for _, thread := range []int{-1, 0, 4, 23, 24} {
			l, ok := impl.RunAlone(p, thread)
			want, is := impl.RunAlone(original, thread)
			if ok != is || !sameLane(l, want) || impl.StepsAlone(p, thread) != impl.StepsAlone(original, thread) {
				t.Errorf("the spare capacity behind %v counts", original)
			}
			regs, ok := impl.EndRegs(p, thread, 2)
			wantRegs, is := impl.EndRegs(original, thread, 2)
			if ok != is || !slices.Equal(regs, wantRegs) {
				t.Errorf("the spare capacity behind %v counts", original)
			}
		}
		for _, l := range []impl.Lane{impl.LaneNew(3), {}, {Thread: 3, Pc: len(p), Regs: []int{1, 2, 3, 4}}} {
			run, n := impl.RunLane(original, l, 1000)
			checkRun(t, p, l, 1000, run, n)
		}
		if !slices.Equal(whole, before) {
			t.Errorf("the program %v was changed to %v", original, whole)
		}
	}
}

// Neither a run nor a change of its result changes the registers of its lane or
// their spare capacity, also where the lane is returned unchanged.
func TestRunLaneReturnsNewMemory(t *testing.T) {
	for _, p := range [][]impl.Ins{nil, doubling(), counting(), sharing(), nops(33), {{Op: 17}}, {halt()}, {jump(0)}} {
		for _, l := range slices.Concat(fewLanesAt(p), brokenLanes(len(p))) {
			for _, steps := range []int{-1, 0, 1, 2, 5, 1000, 1001} {
				checkMemory(t, l.Regs, func(regs []int) []int {
					run, _ := impl.RunLane(p, impl.Lane{Thread: l.Thread, Pc: l.Pc, Regs: regs}, steps)
					return run.Regs
				})
			}
		}
	}
}

func TestAloneReturnsNewMemory(t *testing.T) {
	for _, p := range [][]impl.Ins{nil, doubling(), counting(), sharing(), {halt()}, {jump(0)}, {{}}} {
		for _, thread := range []int{-1, 0, 5, 23, 24} {
			first, _ := impl.RunAlone(p, thread)
			second, _ := impl.RunAlone(p, thread)
			want := slices.Clone(second.Regs)
			overwrite(first.Regs)
			if !slices.Equal(second.Regs, want) {
				t.Errorf("two results of RunAlone(%v, %d) share memory", p, thread)
			}
			for _, count := range []int{0, 1, 3, 24} {
				firstRegs, _ := impl.EndRegs(p, thread, count)
				secondRegs, _ := impl.EndRegs(p, thread, count)
				want := slices.Clone(secondRegs)
				overwrite(firstRegs)
				if !slices.Equal(secondRegs, want) {
					t.Errorf("two results of EndRegs(%v, %d, %d) share memory", p, thread, count)
				}
			}
		}
	}
}

// A run of another call is not remembered: each call starts anew.
func TestRunsAreNotKept(t *testing.T) {
	for range 3 {
		TestAloneExamples(t)
		TestEndRegsExamples(t)
		TestRunLaneFromTheMiddle(t)
	}
}
