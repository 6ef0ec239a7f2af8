package tests

import (
	"math"
	"math/bits"
	"slices"
	"testing"

	"loop.example/g00985/impl"
)

// behind is a program and what the document requires of each of its nodes: the
// nodes after it and the first one of them.
type behind struct {
	p      []impl.Ins
	afters [][]int
	first  []int
}

// nested returns a program with one branch inside the other, whose ways come
// together at 5 and, for the outer branch, at the exit only.
func nested() []impl.Ins {
	return []impl.Ins{zero(6), zero(4), {}, jump(5), {}, jump(7), {}}
}

// descending returns a program whose nodes follow in another order than that of
// their numbers.
func descending() []impl.Ins {
	return []impl.Ins{jump(2), jump(3), jump(1)}
}

// trapped returns a program whose branch enters a circle with one successor.
func trapped() []impl.Ins {
	return []impl.Ins{zero(2), jump(1), {}}
}

// behinds returns programs whose nodes after each node were written by hand.
func behinds() []behind {
	nop := impl.Ins{}
	return slices.Concat(loopsBehind(), []behind{
		{nil, [][]int{{0}}, []int{-1}},
		{[]impl.Ins{}, [][]int{{0}}, []int{-1}},
		{[]impl.Ins{nop}, [][]int{{0, 1}, {1}}, []int{1, -1}},
		{[]impl.Ins{halt()}, [][]int{{0, 1}, {1}}, []int{1, -1}},
		{[]impl.Ins{jump(1)}, [][]int{{0, 1}, {1}}, []int{1, -1}},
		{[]impl.Ins{zero(1)}, [][]int{{0, 1}, {1}}, []int{1, -1}},
		{[]impl.Ins{nop, nop, nop}, [][]int{{0, 1, 2, 3}, {1, 2, 3}, {2, 3}, {3}}, []int{1, 2, 3, -1}},
		{[]impl.Ins{nop, halt(), nop}, [][]int{{0, 1, 3}, {1, 3}, {2, 3}, {3}}, []int{1, 3, 3, -1}},
		{descending(), [][]int{{0, 1, 2, 3}, {1, 3}, {1, 2, 3}, {3}}, []int{2, 3, 1, -1}},
		// The ways come together at once, at the exit only, and at the exit because
		// the branch jumps there.
		{[]impl.Ins{zero(2), nop, nop}, [][]int{{0, 2, 3}, {1, 2, 3}, {2, 3}, {3}}, []int{2, 2, 3, -1}},
		{[]impl.Ins{zero(2), halt(), nop}, [][]int{{0, 3}, {1, 3}, {2, 3}, {3}}, []int{3, 3, 3, -1}},
		{[]impl.Ins{zero(3), nop, halt(), nop}, [][]int{{0, 4}, {1, 2, 4}, {2, 4}, {3, 4}, {4}}, []int{4, 2, 4, 4, -1}},
		{[]impl.Ins{zero(3), nop, nop}, [][]int{{0, 3}, {1, 2, 3}, {2, 3}, {3}}, []int{3, 2, 3, -1}},
		{[]impl.Ins{nop, zero(2), nop}, [][]int{{0, 1, 2, 3}, {1, 2, 3}, {2, 3}, {3}}, []int{1, 2, 3, -1}},
		// One branch behind the other, and one inside the other.
		{[]impl.Ins{zero(2), nop, zero(4), nop}, [][]int{{0, 2, 4}, {1, 2, 4}, {2, 4}, {3, 4}, {4}}, []int{2, 2, 4, 4, -1}},
		{nested(), [][]int{{0, 7}, {1, 5, 7}, {2, 3, 5, 7}, {3, 5, 7}, {4, 5, 7}, {5, 7}, {6, 7}, {7}}, []int{7, 5, 3, 5, 5, 7, 7, -1}},
		{
			[]impl.Ins{zero(5), zero(4), nop, jump(5), nop, nop},
			[][]int{{0, 5, 6}, {1, 5, 6}, {2, 3, 5, 6}, {3, 5, 6}, {4, 5, 6}, {5, 6}, {6}},
			[]int{5, 5, 3, 5, 5, 6, -1},
		},
		{
			doubling(),
			[][]int{{0, 1, 2, 3, 7, 8}, {1, 2, 3, 7, 8}, {2, 3, 7, 8}, {3, 7, 8}, {4, 5, 7, 8}, {5, 7, 8}, {6, 7, 8}, {7, 8}, {8}},
			[]int{1, 2, 3, 7, 5, 7, 7, 8, -1},
		},
		{
			sharing(),
			[][]int{{0, 1, 2, 3, 4, 6, 8}, {1, 2, 3, 4, 6, 8}, {2, 3, 4, 6, 8}, {3, 4, 6, 8}, {4, 6, 8}, {5, 6, 8}, {6, 8}, {0, 1, 2, 3, 4, 6, 7, 8}, {8}},
			[]int{1, 2, 3, 4, 6, 6, 8, 0, -1},
		},
	})
}

// loopsBehind returns the programs of behinds with circles.
func loopsBehind() []behind {
	nop := impl.Ins{}
	return []behind{
		{[]impl.Ins{jump(0)}, [][]int{{}, {1}}, []int{-1, -1}},
		{[]impl.Ins{zero(0)}, [][]int{{0, 1}, {1}}, []int{1, -1}},
		{[]impl.Ins{nop, nop, zero(0)}, [][]int{{0, 1, 2, 3}, {1, 2, 3}, {2, 3}, {3}}, []int{1, 2, 3, -1}},
		{[]impl.Ins{nop, zero(1), nop}, [][]int{{0, 1, 2, 3}, {1, 2, 3}, {2, 3}, {3}}, []int{1, 2, 3, -1}},
		{
			counting(),
			[][]int{{0, 1, 2, 6, 7}, {1, 2, 6, 7}, {2, 6, 7}, {2, 3, 4, 5, 6, 7}, {2, 4, 5, 6, 7}, {2, 5, 6, 7}, {6, 7}, {7}},
			[]int{1, 2, 6, 4, 5, 2, 7, -1},
		},
		// A loop that two branches leave, and one that is entered at two places.
		{[]impl.Ins{zero(4), zero(4), nop, jump(0), nop}, [][]int{{0, 4, 5}, {1, 4, 5}, {0, 2, 3, 4, 5}, {0, 3, 4, 5}, {4, 5}, {5}}, []int{4, 4, 3, 0, 5, -1}},
		{[]impl.Ins{zero(2), zero(3), jump(1)}, [][]int{{0, 1, 3}, {1, 3}, {1, 2, 3}, {3}}, []int{1, 3, 1, -1}},
		// One successor of the branch enters a circle, the other one does not, or
		// both do.
		{trapped(), [][]int{{0, 2, 3}, {}, {2, 3}, {3}}, []int{2, -1, 3, -1}},
		{[]impl.Ins{zero(2), halt(), jump(3), jump(2)}, [][]int{{0, 1, 4}, {1, 4}, {}, {}, {4}}, []int{1, 4, -1, -1, -1}},
		{[]impl.Ins{zero(2), jump(1), jump(0)}, [][]int{{}, {}, {}, {3}}, []int{-1, -1, -1, -1}},
		{[]impl.Ins{zero(0), zero(3), jump(2), nop}, [][]int{{0, 1, 3, 4}, {1, 3, 4}, {}, {3, 4}, {4}}, []int{1, 3, -1, 4, -1}},
	}
}

// meeting is a program, two of its nodes and where they meet.
type meeting struct {
	p    []impl.Ins
	a, b int
	want int
}

func meetings() []meeting {
	return []meeting{
		{nil, 0, 0, 0},
		{doubling(), 4, 6, 7}, {doubling(), 5, 6, 7}, {doubling(), 3, 4, 7}, {doubling(), 0, 4, 7}, {doubling(), 1, 3, 3}, {doubling(), 4, 5, 5},
		{doubling(), 5, 8, 8}, {doubling(), 6, 6, 6}, {doubling(), 0, 0, 0}, {doubling(), 8, 8, 8},
		{counting(), 3, 6, 6}, {counting(), 2, 5, 2}, {counting(), 3, 2, 2}, {counting(), 0, 4, 2}, {counting(), 3, 5, 5}, {counting(), 7, 3, 7},
		{nested(), 2, 4, 5}, {nested(), 3, 4, 5}, {nested(), 1, 6, 7}, {nested(), 3, 6, 7}, {nested(), 0, 6, 7}, {nested(), 0, 1, 7}, {nested(), 1, 2, 5},
		{descending(), 0, 2, 2}, {descending(), 0, 1, 1}, {descending(), 1, 2, 1}, {descending(), 2, 3, 3},
		{trapped(), 0, 2, 2}, {trapped(), 0, 0, 0}, {trapped(), 0, 1, -1}, {trapped(), 1, 1, -1}, {trapped(), 1, 2, -1}, {trapped(), 1, 3, -1},
		{[]impl.Ins{jump(0), jump(1)}, 0, 1, -1}, {[]impl.Ins{jump(0), jump(1)}, 0, 0, -1}, {[]impl.Ins{jump(0), jump(1)}, 2, 1, -1}, {[]impl.Ins{jump(0), jump(1)}, 2, 2, 2},
		{[]impl.Ins{zero(2), halt(), {}}, 1, 2, 3}, {[]impl.Ins{zero(2), halt(), {}}, 0, 1, 3}, {[]impl.Ins{zero(0), {}}, 0, 1, 1}, {[]impl.Ins{zero(0), {}}, 0, 0, 0},
	}
}

// waysToExit returns the ways to the exit that begin with these nodes and pass no
// node twice: a circle adds no node that every way has to pass.
func waysToExit(p []impl.Ins, begun []int) [][]int {
	last := begun[len(begun)-1]
	if last == len(p) {
		return [][]int{begun}
	}
	ways := [][]int{}
	for _, next := range stepFrom(p, []int{last}) {
		if !slices.Contains(begun, next) {
			ways = append(ways, waysToExit(p, append(slices.Clone(begun), next))...)
		}
	}
	return ways
}

// onEachWay returns the nodes that all ways have, or none if there are no ways.
func onEachWay(p []impl.Ins, ways [][]int) []int {
	return nodesWhere(p, func(node int) bool {
		misses := func(way []int) bool { return !slices.Contains(way, node) }
		return len(ways) > 0 && !slices.ContainsFunc(ways, misses)
	})
}

// nodeSet has bit n for node n.
type nodeSet uint64

func (s nodeSet) has(node int) bool { return s>>node&1 == 1 }

func (s nodeSet) count() int { return bits.OnesCount64(uint64(s)) }

// nodes returns the nodes of a set in ascending order.
func (s nodeSet) nodes(p []impl.Ins) []int {
	return nodesWhere(p, s.has)
}

// afterSets returns the nodes after each node as the largest solution of these
// equations: the exit has only itself, and each other node has itself and what
// all those of its successors share that reach the exit.
func afterSets(p []impl.Ins) []nodeSet {
	ends := endingNodes(p)
	sets := make([]nodeSet, len(p)+1)
	for node := range sets {
		if ends[node] {
			sets[node] = math.MaxUint64
		}
	}
	sets[len(p)] = 1 << len(p)
	for changed := true; changed; {
		changed = false
		for node := range len(p) {
			shared := sets[node]
			for _, next := range stepFrom(p, []int{node}) {
				if ends[next] {
					shared &= sets[next] | 1<<node
				}
			}
			changed = changed || shared != sets[node]
			sets[node] = shared
		}
	}
	return sets
}

// endingNodes tells for each node whether it reaches the exit.
func endingNodes(p []impl.Ins) []bool {
	ends := make([]bool, len(p)+1)
	ends[len(p)] = true
	for range p {
		for node := range p {
			for _, next := range stepFrom(p, []int{node}) {
				ends[node] = ends[node] || ends[next]
			}
		}
	}
	return ends
}

// firstOfSet returns the node of a set from which all its other nodes are after,
// or -1 if there is none.
func firstOfSet(sets []nodeSet, all nodeSet) int {
	for node, after := range sets {
		if all.has(node) && all&^after == 0 {
			return node
		}
	}
	return -1
}

// largeFlows returns programs of many sizes, with and without circles.
func largeFlows() [][]impl.Ins {
	return slices.Concat(anyFlows(), programsOf(longFlows()))
}

func checkIsAfter(t *testing.T, p []impl.Ins, node int, later int, want bool) {
	t.Helper()
	if got := impl.IsAfter(p, node, later); got != want {
		t.Errorf("IsAfter(%v, %d, %d) = %v", p, node, later, got)
	}
}

func checkFirst(t *testing.T, p []impl.Ins, node int, want int) {
	t.Helper()
	if got := impl.FirstAfter(p, node); got != want {
		t.Errorf("FirstAfter(%v, %d) = %d, not %d", p, node, got, want)
	}
}

func checkMeets(t *testing.T, p []impl.Ins, a int, b int, want int) {
	t.Helper()
	if got := impl.MeetsAt(p, a, b); got != want {
		t.Errorf("MeetsAt(%v, %d, %d) = %d, not %d", p, a, b, got, want)
	}
}

// checkAfters checks what is after one node.
func checkAfters(t *testing.T, p []impl.Ins, node int, afters []int, first int) {
	t.Helper()
	checkNodes(t, "AftersOf", p, node, impl.AftersOf(p, node), afters)
	checkFirst(t, p, node, first)
	for later := range len(p) + 1 {
		checkIsAfter(t, p, node, later, slices.Contains(afters, later))
	}
}

// checkNothingAfter checks a node that does not exist, in each place.
func checkNothingAfter(t *testing.T, p []impl.Ins, bad int, others []int) {
	t.Helper()
	checkNodes(t, "AftersOf", p, bad, impl.AftersOf(p, bad), nil)
	checkFirst(t, p, bad, -1)
	for _, other := range append(others, bad) {
		checkIsAfter(t, p, bad, other, false)
		checkIsAfter(t, p, other, bad, false)
		checkMeets(t, p, bad, other, -1)
		checkMeets(t, p, other, bad, -1)
	}
}

func TestAfterExamples(t *testing.T) {
	for _, one := range behinds() {
		for node := range len(one.p) + 1 {
			checkAfters(t, one.p, node, one.afters[node], one.first[node])
		}
	}
}

func TestMeetsAtExamples(t *testing.T) {
	for _, one := range meetings() {
		checkMeets(t, one.p, one.a, one.b, one.want)
		checkMeets(t, one.p, one.b, one.a, one.want)
	}
}

// The definition itself: every way is written out.
func TestAftersAreOnEachWay(t *testing.T) {
	for _, p := range slices.Concat(smallFlows(), programsOf(flows())) {
		for node := range len(p) + 1 {
			want := onEachWay(p, waysToExit(p, []int{node}))
			checkNodes(t, "AftersOf", p, node, impl.AftersOf(p, node), want)
			for later := range len(p) + 1 {
				checkIsAfter(t, p, node, later, slices.Contains(want, later))
			}
		}
	}
}

func TestAftersOfAnyFlow(t *testing.T) {
	for _, p := range flowPrograms() {
		sets := afterSets(p)
		for node, after := range sets {
			checkAfters(t, p, node, after.nodes(p), firstOfSet(sets, after&^(1<<node)))
		}
	}
}

func TestMeetsAtOfAnyFlow(t *testing.T) {
	for _, p := range slices.Concat(smallFlows(), programsOf(flows()), largeFlows()) {
		sets := afterSets(p)
		for a := range sets {
			for b := a % 3; b < len(sets); b += 1 + len(p)/8 {
				checkMeets(t, p, a, b, firstOfSet(sets, sets[a]&sets[b]))
				checkMeets(t, p, b, a, firstOfSet(sets, sets[a]&sets[b]))
			}
		}
	}
}

// Nothing reaches the exit behind a node at which a thread would stay, and
// everything else stays as it was.
func TestNoWayLeavesOutWhatIsAfter(t *testing.T) {
	for _, p := range flowPrograms() {
		for later := range p {
			stopped := slices.Clone(p)
			stopped[later] = jump(later)
			for node := range len(p) + 1 {
				checkIsAfter(t, p, node, later, impl.ReachesExit(p, node) && !impl.ReachesExit(stopped, node))
			}
		}
	}
}

// Promise 8: the first node after another one comes before all that are after
// it.
func TestFirstAfterComesBeforeTheOthers(t *testing.T) {
	for _, p := range flowPrograms() {
		for node := range len(p) + 1 {
			others := slices.DeleteFunc(impl.AftersOf(p, node), func(later int) bool { return later == node })
			first := impl.FirstAfter(p, node)
			if (first == -1) != (len(others) == 0) || first != -1 && !slices.Contains(others, first) {
				t.Fatalf("FirstAfter(%v, %d) = %d of %v", p, node, first, others)
			}
			for _, later := range others {
				if !impl.IsAfter(p, node, later) || !impl.IsAfter(p, first, later) || later != first && impl.IsAfter(p, later, first) {
					t.Fatalf("FirstAfter(%v, %d) = %d, but %d is after %d", p, node, first, later, node)
				}
			}
		}
	}
}

// Promise 8 on the ways themselves: before it has passed the first node, no way
// to the exit has passed another one.
func TestEachWayPassesTheFirstOneFirst(t *testing.T) {
	for _, p := range slices.Concat(smallFlows(), programsOf(flows())) {
		for node := range len(p) + 1 {
			others := slices.DeleteFunc(impl.AftersOf(p, node), func(later int) bool { return later == node })
			for _, way := range waysToExit(p, []int{node}) {
				isOther := func(passed int) bool { return slices.Contains(others, passed) }
				if place := slices.IndexFunc(way, isOther); place != -1 && way[place] != impl.FirstAfter(p, node) {
					t.Fatalf("the way %v of %v passes %d before %d", way, p, way[place], impl.FirstAfter(p, node))
				}
			}
		}
	}
}

// Where two nodes meet is after both, and comes before all that are.
func TestMeetsAtIsAfterBoth(t *testing.T) {
	for _, p := range slices.Concat(smallFlows(), programsOf(flows()), anyFlows()[:66]) {
		for a := range len(p) + 1 {
			for b := a; b <= len(p); b += 1 + len(p)/8 {
				isBoth := func(node int) bool { return impl.IsAfter(p, a, node) && impl.IsAfter(p, b, node) }
				both, meet := nodesWhere(p, isBoth), impl.MeetsAt(p, a, b)
				if (meet == -1) != (len(both) == 0) || meet != -1 && !slices.Contains(both, meet) {
					t.Fatalf("MeetsAt(%v, %d, %d) = %d of %v", p, a, b, meet, both)
				}
				for _, node := range both {
					checkIsAfter(t, p, meet, node, true)
				}
			}
		}
	}
}

func TestMeetsAtOfANodeWithItself(t *testing.T) {
	for _, p := range flowPrograms() {
		for node := range len(p) + 1 {
			want := -1
			if impl.ReachesExit(p, node) {
				want = node
			}
			checkMeets(t, p, node, node, want)
		}
	}
}

// The exit is after itself and after every node that reaches it, and a node is
// after itself if it reaches the exit.
func TestAfterOfTheExit(t *testing.T) {
	for _, p := range flowPrograms() {
		exit := len(p)
		checkAfters(t, p, exit, []int{exit}, -1)
		for node := range len(p) + 1 {
			reaches := impl.ReachesExit(p, node)
			checkIsAfter(t, p, node, exit, reaches)
			checkIsAfter(t, p, node, node, reaches)
			want := -1
			if reaches {
				want = exit
			}
			checkMeets(t, p, node, exit, want)
			checkMeets(t, p, exit, node, want)
		}
	}
}

func TestAfterOfNodesThatDoNotReachTheExit(t *testing.T) {
	for _, p := range slices.Concat(smallFlows(), largeFlows()) {
		ends := endingNodes(p)
		for node := range len(p) + 1 {
			if ends[node] {
				continue
			}
			checkAfters(t, p, node, nil, -1)
			for other := range len(p) + 1 {
				checkIsAfter(t, p, other, node, false)
				checkMeets(t, p, node, other, -1)
				checkMeets(t, p, other, node, -1)
			}
		}
	}
}

// An InZero at each place of a program without other jumps, with each target: it
// leaves out the nodes between itself and a target behind it, and no others.
func TestAfterOfOneBranch(t *testing.T) {
	for _, size := range []int{1, 2, 9, 32} {
		for place := range size {
			for b := range size + 1 {
				p := nops(size)
				p[place] = zero(b)
				for _, node := range []int{0, place / 2, place, place + 1, b, size} {
					skips := func(later int) bool { return node <= place && later > place && later < b }
					afters := nodesWhere(p, func(later int) bool { return later >= node && !skips(later) })
					first := -1
					if len(afters) > 1 {
						first = afters[1]
					}
					checkAfters(t, p, node, afters, first)
				}
			}
		}
	}
}

// An InHalt or an InJump at each place: what comes before it ends there, or goes
// on at the target.
func TestAfterOfOneHaltOrJump(t *testing.T) {
	for _, size := range []int{1, 2, 9, 32} {
		for place := range size {
			p := nops(size)
			p[place] = halt()
			checkFirst(t, p, place, size)
			for node := range place + 1 {
				ended := nodesWhere(p, func(later int) bool { return later >= node && later <= place || later == size })
				checkNodes(t, "AftersOf", p, node, impl.AftersOf(p, node), ended)
			}
			for b := place + 1; b <= size; b++ {
				p[place] = jump(b)
				checkFirst(t, p, place, b)
				for node := range place + 1 {
					jumped := nodesWhere(p, func(later int) bool { return later >= node && later <= place || later >= b })
					checkNodes(t, "AftersOf", p, node, impl.AftersOf(p, node), jumped)
				}
			}
			p[place] = jump(place)
			for node := range place + 1 {
				checkAfters(t, p, node, nil, -1)
			}
		}
	}
}

// A branch whose successors are a circle and the way to the exit goes only the
// way to the exit.
func TestAfterOfACircleBesideTheWay(t *testing.T) {
	for _, circle := range []impl.Ins{jump(1), jump(2), jump(3)} {
		p := []impl.Ins{zero(4), {}, {}, circle, {}, {}}
		if circle.B == 2 {
			p[2] = jump(3)
		}
		checkAfters(t, p, 0, []int{0, 4, 5, 6}, 4)
		for node := 1; node < 4; node++ {
			checkAfters(t, p, node, nil, -1)
			checkIsAfter(t, p, 0, node, false)
			checkMeets(t, p, 0, node, -1)
			checkMeets(t, p, node, 4, -1)
		}
		checkMeets(t, p, 0, 4, 4)
	}
}

func TestAfterOfLongPrograms(t *testing.T) {
	for node := range 32 {
		checkFirst(t, nops(32), node, node+1)
		checkMeets(t, nops(32), node, 31-node, max(node, 31-node))
		checkFirst(t, slices.Repeat([]impl.Ins{halt()}, 32), node, 32)
		checkFirst(t, slices.Repeat([]impl.Ins{zero(32)}, 32), node, 32)
		// Each target is the next place but one, so that any node can be left out.
		steps := nops(32)
		for place := range steps {
			steps[place] = zero(min(place+2, 32))
		}
		checkAfters(t, steps, node, slices.Compact([]int{node, 32}), 32)
	}
	down := slices.Concat([]impl.Ins{jump(31), jump(32)}, nops(30))
	for place := 2; place < 32; place++ {
		down[place] = jump(place - 1)
	}
	checkAfters(t, down, 0, nodesWhere(down, func(int) bool { return true }), 31)
	checkAfters(t, down, 17, nodesWhere(down, func(later int) bool { return later > 0 && later < 18 || later == 32 }), 16)
	checkMeets(t, down, 20, 25, 20)
	checkMeets(t, down, 0, 31, 31)
}

// The registers and operations of instructions without a target do not count.
func TestAfterOfAnyRegister(t *testing.T) {
	for a := range 4 {
		p := []impl.Ins{{Op: impl.InSet, A: a, B: 0}, {Op: impl.InZero, A: a, B: 3}, {Op: impl.InSelf, A: a}, {Op: impl.InBarrier}}
		checkAfters(t, p, 0, []int{0, 1, 3, 4}, 1)
		checkAfters(t, p, 1, []int{1, 3, 4}, 3)
		checkMeets(t, p, 1, 2, 3)
	}
}

func TestAfterOfNoNodes(t *testing.T) {
	for _, p := range slices.Concat(validPrograms(), largeFlows()) {
		for _, bad := range notPlaces(len(p)) {
			checkNothingAfter(t, p, bad, []int{0, len(p) / 2, len(p), -1, len(p) + 1})
		}
	}
}

func TestAfterOfInvalidPrograms(t *testing.T) {
	for _, p := range invalidPrograms() {
		for _, node := range []int{math.MinInt, -1, 0, 1, len(p) / 2, len(p) - 1, len(p), len(p) + 1, 32, 33, math.MaxInt} {
			checkNothingAfter(t, p, node, []int{0, len(p), node})
		}
	}
}

// One instruction that is not valid is enough, even where no way passes it.
func TestAfterOfOneInvalidInstruction(t *testing.T) {
	for _, start := range []impl.Ins{halt(), zero(0), zero(3), jump(3)} {
		for _, i := range brokenIns(3) {
			p := []impl.Ins{start, {}, i}
			for node := range 4 {
				checkNothingAfter(t, p, node, []int{0, 1, 2, 3})
			}
		}
	}
}

// Neither the calls nor a change of their results change the argument or its
// spare capacity.
func TestAfterReturnsNewMemory(t *testing.T) {
	for _, original := range slices.Concat(validPrograms(), largeFlows(), longPrograms(), [][]impl.Ins{{zero(0), {Op: 17}}}) {
		p, whole := guarded(original)
		before := slices.Clone(whole)
		for _, node := range []int{-1, 0, len(p) / 2, len(p), len(p) + 1} {
			first, second := impl.AftersOf(p, node), impl.AftersOf(p, node)
			want := slices.Clone(second)
			first = append(first, 77)
			for place := range first[:cap(first)] {
				first[:cap(first)][place] = 78
			}
			if !slices.Equal(second, want) || !slices.Equal(impl.AftersOf(p, node), want) {
				t.Fatalf("two results for %v and %d share memory", original, node)
			}
			checkNodes(t, "AftersOf", p, node, want, impl.AftersOf(original, node))
			checkFirst(t, p, node, impl.FirstAfter(original, node))
			checkMeets(t, p, node, 0, impl.MeetsAt(original, node, 0))
			checkIsAfter(t, p, 0, node, impl.IsAfter(original, 0, node))
		}
		if !slices.Equal(whole, before) {
			t.Errorf("the program %v was changed to %v", original, whole)
		}
	}
}

// A program of another call is not remembered: each call starts anew.
func TestAftersAreNotKept(t *testing.T) {
	for range 3 {
		for _, one := range behinds() {
			checkAfters(t, one.p, 0, one.afters[0], one.first[0])
			checkNothingAfter(t, one.p, len(one.p)+1, []int{0})
		}
		for _, one := range meetings() {
			checkMeets(t, one.p, one.a, one.b, one.want)
		}
	}
}
