package tests

import (
	"math"
	"math/rand"
	"slices"
	"testing"

	"loop.example/g00985/impl"
)

// jump, zero and halt return the instructions after which another one than the
// next may follow.
func jump(b int) impl.Ins { return impl.Ins{Op: impl.InJump, B: b} }

func zero(b int) impl.Ins { return impl.Ins{Op: impl.InZero, A: 1, B: b} }

func halt() impl.Ins { return impl.Ins{Op: impl.InHalt} }

// flow is a program and what the document requires of its flow graph, with the
// reachable nodes of each node.
type flow struct {
	p        []impl.Ins
	next     [][]int
	reached  [][]int
	branches []int
	ends     bool
}

// flows returns programs whose flow graphs were written by hand.
func flows() []flow {
	nop := impl.Ins{}
	return []flow{
		{nil, [][]int{{}}, [][]int{{0}}, nil, true},
		{[]impl.Ins{}, [][]int{{}}, [][]int{{0}}, nil, true},
		{[]impl.Ins{nop}, [][]int{{1}, {}}, [][]int{{0, 1}, {1}}, nil, true},
		{[]impl.Ins{halt()}, [][]int{{1}, {}}, [][]int{{0, 1}, {1}}, nil, true},
		{[]impl.Ins{jump(0)}, [][]int{{0}, {}}, [][]int{{0}, {1}}, nil, false},
		{[]impl.Ins{jump(1)}, [][]int{{1}, {}}, [][]int{{0, 1}, {1}}, nil, true},
		{[]impl.Ins{zero(0)}, [][]int{{0, 1}, {}}, [][]int{{0, 1}, {1}}, []int{0}, false},
		{[]impl.Ins{zero(1)}, [][]int{{1}, {}}, [][]int{{0, 1}, {1}}, nil, true},
		{[]impl.Ins{nop, nop, nop}, [][]int{{1}, {2}, {3}, {}}, [][]int{{0, 1, 2, 3}, {1, 2, 3}, {2, 3}, {3}}, nil, true},
		{[]impl.Ins{nop, halt(), nop}, [][]int{{1}, {3}, {3}, {}}, [][]int{{0, 1, 3}, {1, 3}, {2, 3}, {3}}, nil, true},
		{[]impl.Ins{nop, nop, halt()}, [][]int{{1}, {2}, {3}, {}}, [][]int{{0, 1, 2, 3}, {1, 2, 3}, {2, 3}, {3}}, nil, true},
		{[]impl.Ins{jump(3), nop, nop}, [][]int{{3}, {2}, {3}, {}}, [][]int{{0, 3}, {1, 2, 3}, {2, 3}, {3}}, nil, true},
		{[]impl.Ins{jump(1), jump(2), jump(0)}, [][]int{{1}, {2}, {0}, {}}, [][]int{{0, 1, 2}, {0, 1, 2}, {0, 1, 2}, {3}}, nil, false},
		{[]impl.Ins{jump(2), jump(1), nop}, [][]int{{2}, {1}, {3}, {}}, [][]int{{0, 2, 3}, {1}, {2, 3}, {3}}, nil, true},
		{[]impl.Ins{halt(), jump(2), jump(1)}, [][]int{{3}, {2}, {1}, {}}, [][]int{{0, 3}, {1, 2}, {1, 2}, {3}}, nil, true},
		{[]impl.Ins{nop, jump(1), nop}, [][]int{{1}, {1}, {3}, {}}, [][]int{{0, 1}, {1}, {2, 3}, {3}}, nil, false},
		{[]impl.Ins{zero(3), zero(2), zero(2)}, [][]int{{1, 3}, {2}, {2, 3}, {}}, [][]int{{0, 1, 2, 3}, {1, 2, 3}, {2, 3}, {3}}, []int{0, 2}, false},
		{[]impl.Ins{nop, nop, zero(0)}, [][]int{{1}, {2}, {0, 3}, {}}, [][]int{{0, 1, 2, 3}, {0, 1, 2, 3}, {0, 1, 2, 3}, {3}}, []int{2}, false},
		{[]impl.Ins{nop, nop, zero(3)}, [][]int{{1}, {2}, {3}, {}}, [][]int{{0, 1, 2, 3}, {1, 2, 3}, {2, 3}, {3}}, nil, true},
		{
			doubling(),
			[][]int{{1}, {2}, {3}, {4, 6}, {5}, {7}, {7}, {8}, {}},
			[][]int{{0, 1, 2, 3, 4, 5, 6, 7, 8}, {1, 2, 3, 4, 5, 6, 7, 8}, {2, 3, 4, 5, 6, 7, 8}, {3, 4, 5, 6, 7, 8}, {4, 5, 7, 8}, {5, 7, 8}, {6, 7, 8}, {7, 8}, {8}},
			[]int{3}, true,
		},
		{
			counting(),
			[][]int{{1}, {2}, {3, 6}, {4}, {5}, {2}, {7}, {}},
			[][]int{{0, 1, 2, 3, 4, 5, 6, 7}, {1, 2, 3, 4, 5, 6, 7}, {2, 3, 4, 5, 6, 7}, {2, 3, 4, 5, 6, 7}, {2, 3, 4, 5, 6, 7}, {2, 3, 4, 5, 6, 7}, {6, 7}, {7}},
			[]int{2}, false,
		},
		{
			sharing(),
			[][]int{{1}, {2}, {3}, {4}, {5, 6}, {6}, {8}, {0}, {}},
			[][]int{{0, 1, 2, 3, 4, 5, 6, 8}, {1, 2, 3, 4, 5, 6, 8}, {2, 3, 4, 5, 6, 8}, {3, 4, 5, 6, 8}, {4, 5, 6, 8}, {5, 6, 8}, {6, 8}, {0, 1, 2, 3, 4, 5, 6, 7, 8}, {8}},
			[]int{4}, true,
		},
		{
			// One branch inside the other.
			[]impl.Ins{zero(6), zero(4), nop, jump(5), nop, jump(7), nop},
			[][]int{{1, 6}, {2, 4}, {3}, {5}, {5}, {7}, {7}, {}},
			[][]int{{0, 1, 2, 3, 4, 5, 6, 7}, {1, 2, 3, 4, 5, 7}, {2, 3, 5, 7}, {3, 5, 7}, {4, 5, 7}, {5, 7}, {6, 7}, {7}},
			[]int{0, 1}, true,
		},
	}
}

// isLast reports whether the next instruction never follows this one.
func isLast(i impl.Ins) bool {
	return slices.Contains([]int{11, 12}, i.Op)
}

// follows reports whether the document has a step from one node to the other.
func follows(p []impl.Ins, from int, to int) bool {
	if from == len(p) {
		return false
	}
	i := p[from]
	return isTransfer(i) && i.B == to || !isLast(i) && to == from+1 || i.Op == 12 && to == len(p)
}

// nodesWhere returns the nodes with a property, in ascending order.
func nodesWhere(p []impl.Ins, holds func(node int) bool) []int {
	list := []int{}
	for node := range len(p) + 1 {
		if holds(node) {
			list = append(list, node)
		}
	}
	return list
}

// stepFrom returns the nodes to which there is a step from one of the nodes.
func stepFrom(p []impl.Ins, nodes []int) []int {
	return nodesWhere(p, func(to int) bool {
		return slices.ContainsFunc(nodes, func(from int) bool { return follows(p, from, to) })
	})
}

// afterSteps returns the nodes that are reached from a node by as many steps.
func afterSteps(p []impl.Ins, node int, steps int) []int {
	nodes := []int{node}
	for range steps {
		nodes = stepFrom(p, nodes)
	}
	return nodes
}

// reachedBySteps returns the nodes that are reached from a node: a way to a node
// needs no more steps than there are instructions.
func reachedBySteps(p []impl.Ins, node int) []int {
	all := []int{}
	nodes := []int{node}
	for range len(p) + 1 {
		all = append(all, nodes...)
		nodes = stepFrom(p, nodes)
	}
	slices.Sort(all)
	return slices.Compact(all)
}

// flowIns returns the instructions of a program of size instructions that differ
// in what may follow them.
func flowIns(size int) []impl.Ins {
	list := []impl.Ins{{}, halt()}
	for b := range size + 1 {
		list = append(list, jump(b), zero(b))
	}
	return list
}

// smallFlows returns all programs of up to three instructions that differ in
// what may follow.
func smallFlows() [][]impl.Ins {
	list := [][]impl.Ins{}
	for size := range 4 {
		programs := [][]impl.Ins{{}}
		for range size {
			more := [][]impl.Ins{}
			for _, p := range programs {
				for _, i := range flowIns(size) {
					more = append(more, append(slices.Clone(p), i))
				}
			}
			programs = more
		}
		list = append(list, programs...)
	}
	return list
}

// anyFlows returns programs of all sizes with many jumps and branches, the same
// in each run. In every second one they go forward only.
func anyFlows() [][]impl.Ins {
	source := rand.New(rand.NewSource(7))
	list := [][]impl.Ins{}
	for n := range 33 * 6 {
		p := nops(n % 33)
		for place := range p {
			least := place + 1
			if n%2 == 0 {
				least = 0
			}
			b := least + source.Intn(len(p)+1-least)
			p[place] = []impl.Ins{{}, {Op: impl.InSet, B: place}, zero(b), zero(b), zero(b), jump(b), halt()}[source.Intn(7)]
		}
		list = append(list, p)
	}
	return list
}

// longFlows returns programs of MaxCode instructions, with the nodes that node 0
// reaches alone: one without jumps, one whose nodes are reached in descending
// order, the same as a circle, a long circle, branches from end to end, and
// instructions that end at once.
func longFlows() []flow {
	everything := nodesWhere(nops(32), func(int) bool { return true })
	inside := everything[:32]
	back, around, across := nops(32), nops(32), nops(32)
	for place := range 32 {
		back[place] = jump(place - 1)
		across[place] = zero(31 - place)
	}
	back[0] = jump(31)
	around[31] = jump(0)
	down := slices.Concat([]impl.Ins{jump(31), jump(32)}, back[2:])
	// The target of the branch 15 across is the next instruction.
	others := nodesWhere(across, func(node int) bool { return node != 15 && node != 32 })
	return []flow{
		{p: nops(32), reached: [][]int{everything}, ends: true},
		{p: down, reached: [][]int{everything}, ends: true},
		{p: back, reached: [][]int{inside}},
		{p: around, reached: [][]int{inside}},
		{p: across, reached: [][]int{everything}, branches: others},
		{p: slices.Repeat([]impl.Ins{halt()}, 32), reached: [][]int{{0, 32}}, ends: true},
		{p: slices.Repeat([]impl.Ins{zero(32)}, 32), reached: [][]int{everything}, branches: everything[:31], ends: true},
	}
}

// programsOf returns the programs of flow graphs.
func programsOf(list []flow) [][]impl.Ins {
	programs := [][]impl.Ins{}
	for _, f := range list {
		programs = append(programs, f.p)
	}
	return programs
}

// flowPrograms returns valid programs.
func flowPrograms() [][]impl.Ins {
	return slices.Concat(validPrograms(), smallFlows(), anyFlows(), programsOf(longFlows()))
}

func checkNodes(t *testing.T, function string, p []impl.Ins, node int, got []int, want []int) {
	t.Helper()
	if !slices.Equal(got, want) {
		t.Errorf("%s(%v, %d) = %v, not %v", function, p, node, got, want)
	}
}

func checkNoNode(t *testing.T, p []impl.Ins, node int) {
	t.Helper()
	if got := impl.NextOf(p, node); len(got) != 0 {
		t.Errorf("NextOf(%v, %d) = %v", p, node, got)
	}
	if got := impl.ReachableFrom(p, node); len(got) != 0 {
		t.Errorf("ReachableFrom(%v, %d) = %v", p, node, got)
	}
	if impl.ReachesExit(p, node) {
		t.Errorf("ReachesExit(%v, %d) = true", p, node)
	}
}

func checkFlow(t *testing.T, p []impl.Ins, branches []int, ends bool) {
	t.Helper()
	if got := impl.BranchesOf(p); !slices.Equal(got, branches) {
		t.Errorf("BranchesOf(%v) = %v, not %v", p, got, branches)
	}
	if got := impl.AlwaysEnds(p); got != ends {
		t.Errorf("AlwaysEnds(%v) = %v", p, got)
	}
}

func TestFlowExamples(t *testing.T) {
	for _, f := range flows() {
		for node := range len(f.p) + 1 {
			checkNodes(t, "NextOf", f.p, node, impl.NextOf(f.p, node), f.next[node])
			checkNodes(t, "ReachableFrom", f.p, node, impl.ReachableFrom(f.p, node), f.reached[node])
			if got := impl.ReachesExit(f.p, node); got != slices.Contains(f.reached[node], len(f.p)) {
				t.Errorf("ReachesExit(%v, %d) = %v", f.p, node, got)
			}
		}
		checkFlow(t, f.p, f.branches, f.ends)
	}
}

func TestNextOf(t *testing.T) {
	for _, p := range flowPrograms() {
		for node := range len(p) + 1 {
			checkNodes(t, "NextOf", p, node, impl.NextOf(p, node), stepFrom(p, []int{node}))
		}
	}
}

// Each operation at each place, with each target.
func TestNextOfEachOperation(t *testing.T) {
	for _, fact := range insFacts() {
		for _, size := range []int{1, 2, 3, 31, 32} {
			for place := range size {
				for b := range size + 1 {
					p := nops(size)
					p[place] = impl.Ins{Op: fact.op, B: b}
					if !isTransfer(p[place]) {
						p[place].B = 0
					}
					checkNodes(t, "NextOf", p, place, impl.NextOf(p, place), stepFrom(p, []int{place}))
					branches := nodesWhere(p, func(node int) bool { return fact.op == 10 && node == place && b != place+1 })
					back := b <= place && isTransfer(p[place])
					checkFlow(t, p, branches, !back)
				}
			}
		}
	}
}

// The registers that an instruction names do not count.
func TestFlowOfAnyRegister(t *testing.T) {
	for a := range 4 {
		p := []impl.Ins{{Op: impl.InZero, A: a, B: 2}, {Op: impl.InSet, A: a, B: 0}, {Op: impl.InZero, A: a, B: 3}}
		checkNodes(t, "NextOf", p, 0, impl.NextOf(p, 0), []int{1, 2})
		checkNodes(t, "NextOf", p, 1, impl.NextOf(p, 1), []int{2})
		checkFlow(t, p, []int{0}, true)
	}
}

func TestReachableFrom(t *testing.T) {
	for _, p := range flowPrograms() {
		for node := range len(p) + 1 {
			want := reachedBySteps(p, node)
			checkNodes(t, "ReachableFrom", p, node, impl.ReachableFrom(p, node), want)
			if got := impl.ReachesExit(p, node); got != slices.Contains(want, len(p)) {
				t.Errorf("ReachesExit(%v, %d) = %v", p, node, got)
			}
		}
	}
}

// A way of more steps than there are instructions passes a node twice.
func TestAlwaysEndsAndBranchesOf(t *testing.T) {
	for _, p := range flowPrograms() {
		branches := nodesWhere(p, func(node int) bool { return len(stepFrom(p, []int{node})) == 2 })
		checkFlow(t, p, branches, len(afterSteps(p, 0, len(p)+1)) == 0)
	}
}

// Promise 7: what is reached is closed under following.
func TestReachedIsClosedUnderFollowing(t *testing.T) {
	for _, p := range flowPrograms() {
		for node := range len(p) + 1 {
			reached := impl.ReachableFrom(p, node)
			if !slices.Contains(reached, node) || !slices.IsSorted(reached) {
				t.Fatalf("ReachableFrom(%v, %d) = %v", p, node, reached)
			}
			for _, one := range reached {
				for _, next := range append(impl.NextOf(p, one), impl.ReachableFrom(p, one)...) {
					if !slices.Contains(reached, next) {
						t.Fatalf("ReachableFrom(%v, %d) = %v has %d, but not %d, which is reached from it", p, node, reached, one, next)
					}
				}
				if impl.ReachesExit(p, one) && !impl.ReachesExit(p, node) {
					t.Fatalf("%v reaches the exit from %d, but not from %d", p, one, node)
				}
			}
		}
	}
}

// The other direction of promise 7: a node other than the first one is reached
// by a step from one that is reached.
func TestReachedIsFollowed(t *testing.T) {
	for _, p := range flowPrograms() {
		for node := range len(p) + 1 {
			reached := impl.ReachableFrom(p, node)
			for _, one := range reached {
				isNext := func(before int) bool { return slices.Contains(impl.NextOf(p, before), one) }
				if one != node && !slices.ContainsFunc(reached, isNext) {
					t.Fatalf("ReachableFrom(%v, %d) = %v has %d, to which there is no step", p, node, reached, one)
				}
			}
		}
	}
}

func TestJumpsToThemselves(t *testing.T) {
	for _, size := range []int{1, 2, 9, 31, 32} {
		for place := range size {
			p := nops(size)
			p[place] = jump(place)
			before := nodesWhere(p, func(node int) bool { return node <= place })
			checkNodes(t, "NextOf", p, place, impl.NextOf(p, place), []int{place})
			checkNodes(t, "ReachableFrom", p, place, impl.ReachableFrom(p, place), []int{place})
			checkNodes(t, "ReachableFrom", p, 0, impl.ReachableFrom(p, 0), before)
			if impl.ReachesExit(p, place) || impl.ReachesExit(p, 0) || !impl.ReachesExit(p, place+1) {
				t.Errorf("ReachesExit(%v, ...) is wrong", p)
			}
			checkFlow(t, p, nil, false)
			p[place] = zero(place)
			checkNodes(t, "NextOf", p, place, impl.NextOf(p, place), []int{place, place + 1})
			checkNodes(t, "ReachableFrom", p, 0, impl.ReachableFrom(p, 0), nodesWhere(p, func(int) bool { return true }))
			if !impl.ReachesExit(p, place) || !impl.ReachesExit(p, 0) {
				t.Errorf("ReachesExit(%v, ...) = false", p)
			}
			checkFlow(t, p, []int{place}, false)
		}
	}
}

// A circle counts only if node 0 reaches it.
func TestCirclesThatAreNotReached(t *testing.T) {
	for _, skip := range []impl.Ins{halt(), jump(4), zero(4)} {
		for _, last := range []impl.Ins{jump(1), jump(2), jump(3), zero(1), zero(2), zero(3)} {
			p := []impl.Ins{skip, {}, {}, last}
			branches := nodesWhere(p, func(node int) bool { return node < 4 && p[node].Op == impl.InZero })
			checkFlow(t, p, branches, skip.Op != impl.InZero)
		}
	}
}

func TestFlowOfLongPrograms(t *testing.T) {
	for _, f := range longFlows() {
		checkNodes(t, "ReachableFrom", f.p, 0, impl.ReachableFrom(f.p, 0), f.reached[0])
		checkNodes(t, "ReachableFrom", f.p, 32, impl.ReachableFrom(f.p, 32), []int{32})
		checkFlow(t, f.p, f.branches, f.ends)
	}
}

func TestNoNodes(t *testing.T) {
	for _, p := range slices.Concat(validPrograms(), anyFlows(), programsOf(longFlows())) {
		for _, bad := range notPlaces(len(p)) {
			checkNoNode(t, p, bad)
		}
	}
}

func TestFlowOfInvalidPrograms(t *testing.T) {
	for _, p := range invalidPrograms() {
		for _, node := range []int{math.MinInt, -1, 0, 1, len(p) / 2, len(p) - 1, len(p), len(p) + 1, 32, 33, math.MaxInt} {
			checkNoNode(t, p, node)
		}
		checkFlow(t, p, nil, false)
	}
}

// One instruction that is not valid is enough, even where no node reaches it and
// where the program branches or ends before it.
func TestFlowOfOneInvalidInstruction(t *testing.T) {
	for _, start := range []impl.Ins{halt(), zero(0), zero(3), jump(3)} {
		for _, i := range brokenIns(3) {
			p := []impl.Ins{start, {}, i}
			for node := range 4 {
				checkNoNode(t, p, node)
			}
			checkFlow(t, p, nil, false)
		}
	}
}

// Neither the calls nor a change of their results change the argument or its
// spare capacity.
func TestFlowReturnsNewMemory(t *testing.T) {
	for _, original := range slices.Concat(validPrograms(), anyFlows(), programsOf(longFlows()), longPrograms(), [][]impl.Ins{{zero(0), {Op: 17}}}) {
		p, whole := guarded(original)
		before := slices.Clone(whole)
		for _, node := range []int{-1, 0, len(p) / 2, len(p), len(p) + 1} {
			for _, list := range []func() []int{
				func() []int { return impl.NextOf(p, node) },
				func() []int { return impl.ReachableFrom(p, node) },
				func() []int { return impl.BranchesOf(p) },
			} {
				first, second := list(), list()
				want := slices.Clone(second)
				first = append(first, 77)
				for place := range first[:cap(first)] {
					first[:cap(first)][place] = 78
				}
				if !slices.Equal(second, want) || !slices.Equal(list(), want) {
					t.Fatalf("two results for %v and %d share memory", original, node)
				}
			}
			if impl.ReachesExit(p, node) != impl.ReachesExit(original, node) {
				t.Errorf("the spare capacity behind %v counts", original)
			}
		}
		if impl.AlwaysEnds(p) != impl.AlwaysEnds(original) || !slices.Equal(whole, before) {
			t.Errorf("the program %v was changed to %v", original, whole)
		}
	}
}

// A program of another call is not remembered: each call starts anew.
func TestFlowsAreNotKept(t *testing.T) {
	for range 3 {
		for _, f := range flows() {
			checkFlow(t, f.p, f.branches, f.ends)
			checkNodes(t, "ReachableFrom", f.p, 0, impl.ReachableFrom(f.p, 0), f.reached[0])
			checkNoNode(t, f.p, len(f.p)+1)
		}
	}
}
