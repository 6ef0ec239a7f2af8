package tests

import (
	"math"
	"slices"
	"testing"

	"loop.example/g00985/impl"
)

// region is a branch and what the document requires of it.
type region struct {
	branch  int
	join    int
	inside  []int
	forward bool
}

// joining is a program with the regions of all its branches.
type joining struct {
	p       []impl.Ins
	regions []region
}

// upTo returns the numbers from first to last.
func upTo(first int, last int) []int {
	list := []int{}
	for n := first; n <= last; n++ {
		list = append(list, n)
	}
	return list
}

// joinings returns programs whose regions were written by hand.
func joinings() []joining {
	nop := impl.Ins{}
	return slices.Concat(unbranched(), loopsJoining(), endlessJoining(), []joining{
		// The ways come together at once, behind both of them, and at the exit,
		// because the branch or an InHalt ends there.
		{[]impl.Ins{zero(2), nop, nop}, []region{{0, 2, []int{1}, true}}},
		{[]impl.Ins{nop, zero(3), nop}, []region{{1, 3, []int{2}, true}}},
		{[]impl.Ins{zero(3), nop, jump(4), nop, nop}, []region{{0, 4, []int{1, 2, 3}, true}}},
		{doubling(), []region{{3, 7, []int{4, 5, 6}, true}}},
		{sharing(), []region{{4, 6, []int{5}, true}}},
		{[]impl.Ins{zero(2), nop}, []region{{0, 2, []int{1}, true}}},
		{[]impl.Ins{zero(3), nop, nop}, []region{{0, 3, []int{1, 2}, true}}},
		{[]impl.Ins{zero(2), halt(), nop}, []region{{0, 3, []int{1, 2}, true}}},
		{[]impl.Ins{zero(3), nop, halt(), nop}, []region{{0, 4, []int{1, 2, 3}, true}}},
		{[]impl.Ins{zero(3), nop, nop, halt(), nop}, []region{{0, 3, []int{1, 2}, true}}},
		// One branch behind the other, and one inside the other.
		{[]impl.Ins{zero(2), nop, zero(4), nop}, []region{{0, 2, []int{1}, true}, {2, 4, []int{3}, true}}},
		{nested(), []region{{0, 7, []int{1, 2, 3, 4, 5, 6}, true}, {1, 5, []int{2, 3, 4}, true}}},
		{[]impl.Ins{zero(5), zero(4), nop, jump(5), nop, nop}, []region{{0, 5, []int{1, 2, 3, 4}, true}, {1, 5, []int{2, 3, 4}, true}}},
		{[]impl.Ins{zero(5), zero(4), nop, halt(), nop, nop}, []region{{0, 6, []int{1, 2, 3, 4, 5}, true}, {1, 6, []int{2, 3, 4, 5}, true}}},
		{[]impl.Ins{zero(2), zero(4), nop, nop, nop}, []region{{0, 4, []int{1, 2, 3}, true}, {1, 4, []int{2, 3}, true}}},
		// The branch jumps backwards without a circle, and the join has a smaller
		// number than what is inside.
		{[]impl.Ins{jump(3), nop, jump(5), zero(1), nop, nop}, []region{{3, 5, []int{1, 2, 4}, false}}},
		{[]impl.Ins{zero(3), nop, halt(), jump(1)}, []region{{0, 1, []int{3}, false}}},
		{[]impl.Ins{jump(3), nop, halt(), zero(1), jump(1)}, []region{{3, 1, []int{4}, false}}},
	})
}

// unbranched returns the programs of joinings without branches.
func unbranched() []joining {
	nop := impl.Ins{}
	return []joining{
		{nil, nil}, {[]impl.Ins{}, nil}, {[]impl.Ins{nop}, nil}, {[]impl.Ins{halt()}, nil}, {[]impl.Ins{jump(0)}, nil}, {[]impl.Ins{jump(1)}, nil},
		{[]impl.Ins{zero(1)}, nil}, {[]impl.Ins{zero(1), zero(2), nop}, nil}, {descending(), nil},
	}
}

// loopsJoining returns the programs of joinings with loops that can end.
func loopsJoining() []joining {
	nop := impl.Ins{}
	return []joining{
		{[]impl.Ins{zero(0)}, []region{{0, 1, []int{0}, false}}},
		{[]impl.Ins{zero(0), nop}, []region{{0, 1, []int{0}, false}}},
		{[]impl.Ins{nop, zero(1), nop}, []region{{1, 2, []int{1}, false}}},
		{[]impl.Ins{nop, nop, zero(0)}, []region{{2, 3, []int{0, 1, 2}, false}}},
		{[]impl.Ins{nop, nop, zero(1), nop}, []region{{2, 3, []int{1, 2}, false}}},
		{counting(), []region{{2, 6, []int{2, 3, 4, 5}, false}}},
		{[]impl.Ins{zero(3), zero(2), zero(2)}, []region{{0, 3, []int{1, 2}, true}, {2, 3, []int{2}, false}}},
		// A loop inside a branch, and branches inside a loop.
		{[]impl.Ins{zero(5), nop, zero(4), jump(1), nop, nop}, []region{{0, 5, []int{1, 2, 3, 4}, true}, {2, 4, []int{1, 2, 3}, false}}},
		{[]impl.Ins{zero(3), nop, zero(1), nop}, []region{{0, 3, []int{1, 2}, true}, {2, 3, []int{1, 2}, false}}},
		{[]impl.Ins{zero(6), zero(4), nop, jump(5), nop, jump(0), nop}, []region{{0, 6, []int{0, 1, 2, 3, 4, 5}, false}, {1, 5, []int{2, 3, 4}, true}}},
		{[]impl.Ins{zero(5), nop, zero(4), jump(0), jump(0), nop}, []region{{0, 5, []int{0, 1, 2, 3, 4}, false}, {2, 0, []int{3, 4}, false}}},
		{[]impl.Ins{nop, zero(3), nop, zero(0)}, []region{{1, 3, []int{2}, true}, {3, 4, []int{0, 1, 2, 3}, false}}},
		// A loop that two branches leave, and one that is entered at two places.
		{[]impl.Ins{zero(4), zero(4), nop, jump(0), nop}, []region{{0, 4, []int{0, 1, 2, 3}, false}, {1, 4, []int{0, 1, 2, 3}, false}}},
		{[]impl.Ins{zero(2), zero(3), jump(1)}, []region{{0, 1, []int{2}, false}, {1, 3, []int{1, 2}, false}}},
	}
}

// endlessJoining returns the programs of joinings in which one successor of a
// branch, or both, do not reach the exit.
func endlessJoining() []joining {
	nop := impl.Ins{}
	return []joining{
		{trapped(), []region{{0, 3, []int{1, 2}, true}}},
		{[]impl.Ins{zero(2), nop, jump(2), nop}, []region{{0, 4, []int{1, 2}, true}}},
		{[]impl.Ins{zero(2), nop, jump(2)}, []region{{0, 3, []int{1, 2}, true}}},
		{[]impl.Ins{zero(2), halt(), jump(3), jump(2)}, []region{{0, 4, []int{1, 2, 3}, true}}},
		{[]impl.Ins{zero(3), nop, jump(1), nop, nop}, []region{{0, 5, []int{1, 2, 3, 4}, true}}},
		{[]impl.Ins{zero(2), jump(1), jump(2)}, []region{{0, 3, []int{1, 2}, true}}},
		{[]impl.Ins{zero(2), jump(1), jump(0)}, []region{{0, 3, []int{0, 1, 2}, false}}},
		{[]impl.Ins{zero(2), jump(0), jump(0), nop}, []region{{0, 4, []int{0, 1, 2}, false}}},
		{[]impl.Ins{zero(0), jump(1)}, []region{{0, 2, []int{0, 1}, false}}},
		{[]impl.Ins{jump(1), zero(0), jump(2), nop}, []region{{1, 4, []int{0, 1, 2}, false}}},
		{[]impl.Ins{zero(0), zero(3), jump(2), nop}, []region{{0, 1, []int{0}, false}, {1, 4, []int{2, 3}, true}}},
		{[]impl.Ins{zero(5), zero(3), jump(2), nop, nop, nop}, []region{{0, 5, []int{1, 2, 3, 4}, true}, {1, 6, []int{2, 3, 4, 5}, true}}},
	}
}

// joinBySets returns the join of a branch from the sets of nodes after each node.
func joinBySets(p []impl.Ins, branch int) int {
	ends := endingNodes(p)
	for _, next := range stepFrom(p, []int{branch}) {
		if !ends[next] {
			return len(p)
		}
	}
	sets := afterSets(p)
	return firstOfSet(sets, sets[branch]&^(1<<branch))
}

// insideBySteps returns the nodes that are reached from a successor of a branch
// by steps that begin at a node other than the join and do not lead to it.
func insideBySteps(p []impl.Ins, branch int, join int) []int {
	isJoin := func(node int) bool { return node == join }
	all := []int{}
	nodes := []int{branch}
	for range len(p) + 1 {
		nodes = slices.DeleteFunc(stepFrom(p, nodes), isJoin)
		all = append(all, nodes...)
	}
	slices.Sort(all)
	return slices.Compact(all)
}

// waysWithout returns the ways of any length that begin with these nodes, do not
// pass the join and pass no node twice.
func waysWithout(p []impl.Ins, begun []int, join int) [][]int {
	last := begun[len(begun)-1]
	if last == join {
		return nil
	}
	ways := [][]int{begun}
	for _, next := range stepFrom(p, []int{last}) {
		if !slices.Contains(begun, next) {
			ways = append(ways, waysWithout(p, append(slices.Clone(begun), next), join)...)
		}
	}
	return ways
}

// regionsOf returns the regions of all branches of a program, computed another
// way.
func regionsOf(p []impl.Ins) []region {
	list := []region{}
	for branch := range p {
		if len(stepFrom(p, []int{branch})) != 2 {
			continue
		}
		join := joinBySets(p, branch)
		inside := insideBySteps(p, branch, join)
		forward := slices.Min(inside) > branch && slices.Max(inside) < join
		list = append(list, region{branch, join, inside, forward})
	}
	return list
}

func checkJoin(t *testing.T, p []impl.Ins, branch int, want int) {
	t.Helper()
	if got := impl.JoinOf(p, branch); got != want {
		t.Errorf("JoinOf(%v, %d) = %d, not %d", p, branch, got, want)
	}
}

func checkForward(t *testing.T, p []impl.Ins, branch int, want bool) {
	t.Helper()
	if got := impl.IsForward(p, branch); got != want {
		t.Errorf("IsForward(%v, %d) = %v", p, branch, got)
	}
}

// checkInside checks what is inside a branch, one node after the other and with
// numbers that are no nodes.
func checkInside(t *testing.T, p []impl.Ins, branch int, want []int) {
	t.Helper()
	checkNodes(t, "InsideOf", p, branch, impl.InsideOf(p, branch), want)
	for node := -2; node < len(p)+3; node++ {
		if got := impl.IsInside(p, branch, node); got != slices.Contains(want, node) {
			t.Errorf("IsInside(%v, %d, %d) = %v", p, branch, node, got)
		}
	}
}

func checkRegion(t *testing.T, p []impl.Ins, want region) {
	t.Helper()
	checkJoin(t, p, want.branch, want.join)
	checkInside(t, p, want.branch, want.inside)
	checkForward(t, p, want.branch, want.forward)
}

// checkNoBranch checks a number that is not that of a branch.
func checkNoBranch(t *testing.T, p []impl.Ins, bad int) {
	t.Helper()
	checkRegion(t, p, region{bad, -1, nil, false})
	for _, node := range []int{math.MinInt, bad, math.MaxInt} {
		if impl.IsInside(p, bad, node) {
			t.Errorf("IsInside(%v, %d, %d) = true", p, bad, node)
		}
	}
}

// checkRegions checks the regions of all branches, and that all other numbers
// have none.
func checkRegions(t *testing.T, p []impl.Ins, regions []region) {
	t.Helper()
	joins, branches := []int{}, []int{}
	for _, one := range regions {
		checkRegion(t, p, one)
		joins = append(joins, one.join)
		branches = append(branches, one.branch)
	}
	if got := impl.JoinsOf(p); !slices.Equal(got, joins) {
		t.Errorf("JoinsOf(%v) = %v, not %v", p, got, joins)
	}
	for bad := -2; bad < len(p)+3; bad++ {
		if !slices.Contains(branches, bad) {
			checkNoBranch(t, p, bad)
		}
	}
}

func TestJoinExamples(t *testing.T) {
	for _, one := range joinings() {
		checkRegions(t, one.p, one.regions)
	}
}

func TestJoinsOfAnyFlow(t *testing.T) {
	for _, p := range flowPrograms() {
		checkRegions(t, p, regionsOf(p))
	}
}

// The definition itself: every way that does not pass the join is written out.
func TestInsideIsOnAWayBeforeTheJoin(t *testing.T) {
	for _, p := range slices.Concat(smallFlows(), programsOf(flows())) {
		for _, branch := range impl.BranchesOf(p) {
			all := []int{}
			for _, next := range stepFrom(p, []int{branch}) {
				all = slices.Concat(all, slices.Concat(waysWithout(p, []int{next}, impl.JoinOf(p, branch))...))
			}
			slices.Sort(all)
			checkInside(t, p, branch, slices.Compact(all))
		}
	}
}

// A thread that would stay at the join passes what is inside, and nothing else.
func TestInsideIsReachedIfTheJoinIsNotLeft(t *testing.T) {
	for _, p := range flowPrograms() {
		for _, branch := range impl.BranchesOf(p) {
			join, stopped := impl.JoinOf(p, branch), slices.Clone(p)
			if join < len(p) {
				stopped[join] = jump(join)
			}
			next := impl.NextOf(p, branch)
			passed := slices.Concat(impl.ReachableFrom(stopped, next[0]), impl.ReachableFrom(stopped, next[1]))
			passed = slices.DeleteFunc(passed, func(node int) bool { return node == join })
			slices.Sort(passed)
			checkNodes(t, "InsideOf", p, branch, impl.InsideOf(p, branch), slices.Compact(passed))
		}
	}
}

// Promise 9: the join lies behind both ways of the branch, if these reach the
// exit, and is where they meet first.
func TestJoinLiesBehindBothWays(t *testing.T) {
	for _, p := range flowPrograms() {
		for _, branch := range impl.BranchesOf(p) {
			join, next := impl.JoinOf(p, branch), impl.NextOf(p, branch)
			if !impl.ReachesExit(p, next[0]) || !impl.ReachesExit(p, next[1]) {
				checkJoin(t, p, branch, len(p))
				continue
			}
			checkJoin(t, p, branch, impl.FirstAfter(p, branch))
			checkJoin(t, p, branch, impl.MeetsAt(p, next[0], next[1]))
			checkIsAfter(t, p, next[0], join, true)
			checkIsAfter(t, p, next[1], join, true)
			checkIsAfter(t, p, branch, join, true)
			for _, node := range impl.InsideOf(p, branch) {
				checkIsAfter(t, p, node, join, impl.ReachesExit(p, node))
			}
		}
	}
}

// Promise 9: the join does not lie between the branch and itself, nor does any
// other node that both ways must pass, and a way leaves what is between at the
// join only.
func TestJoinDoesNotLieBetween(t *testing.T) {
	for _, p := range flowPrograms() {
		for _, branch := range impl.BranchesOf(p) {
			join, inside := impl.JoinOf(p, branch), impl.InsideOf(p, branch)
			next := impl.NextOf(p, branch)
			isPassed := func(node int) bool { return impl.IsAfter(p, next[0], node) && impl.IsAfter(p, next[1], node) }
			for _, node := range append(nodesWhere(p, isPassed), join, len(p)) {
				if slices.Contains(inside, node) || impl.IsInside(p, branch, node) {
					t.Fatalf("%d is inside the branch %d of %v", node, branch, p)
				}
			}
			for _, next := range stepFrom(p, append(inside, branch)) {
				if next != join && !impl.IsInside(p, branch, next) {
					t.Fatalf("%d follows what is inside the branch %d of %v, but is not inside", next, branch, p)
				}
			}
		}
	}
}

// Promise 9 on the ways themselves: each way from the branch to the exit passes
// the join, and before it only what is inside.
func TestEachWayPassesTheJoin(t *testing.T) {
	for _, p := range slices.Concat(smallFlows(), programsOf(flows())) {
		for _, branch := range impl.BranchesOf(p) {
			for _, way := range waysToExit(p, []int{branch}) {
				place := slices.Index(way, impl.JoinOf(p, branch))
				if place < 1 {
					t.Fatalf("the way %v of %v does not pass %d", way, p, impl.JoinOf(p, branch))
				}
				for _, node := range way[1:place] {
					if !impl.IsInside(p, branch, node) {
						t.Fatalf("the way %v of %v passes %d before the join, which is not inside", way, p, node)
					}
				}
			}
		}
	}
}

// A branch has two successors, of which one at most is the join.
func TestSomethingIsInside(t *testing.T) {
	for _, p := range flowPrograms() {
		for _, branch := range impl.BranchesOf(p) {
			join := impl.JoinOf(p, branch)
			for _, next := range impl.NextOf(p, branch) {
				if impl.IsInside(p, branch, next) == (next == join) {
					t.Errorf("IsInside(%v, %d, %d) is wrong with the join %d", p, branch, next, join)
				}
			}
			if len(impl.InsideOf(p, branch)) == 0 {
				t.Errorf("InsideOf(%v, %d) is empty", p, branch)
			}
		}
	}
}

// A branch is inside if a circle leads through it and not through the join, and a
// branch that jumps backwards is never forward.
func TestBranchesInsideThemselves(t *testing.T) {
	for _, p := range flowPrograms() {
		for _, branch := range impl.BranchesOf(p) {
			if impl.IsForward(p, branch) && (p[branch].B <= branch || impl.JoinOf(p, branch) <= branch || impl.IsInside(p, branch, branch)) {
				t.Errorf("IsForward(%v, %d) = true", p, branch)
			}
			if impl.IsInside(p, branch, branch) && !slices.Contains(reachedBySteps(p, p[branch].B), branch) && !slices.Contains(reachedBySteps(p, branch+1), branch) {
				t.Errorf("IsInside(%v, %d, %d) = true without a circle", p, branch, branch)
			}
		}
	}
}

// An InZero at each place of a program without other jumps, with each target: to
// itself, to the next instruction, to the exit, forwards and backwards.
func TestJoinOfOneBranch(t *testing.T) {
	for _, size := range []int{1, 2, 9, 17} {
		for place := range size {
			for b := range size + 1 {
				p := nops(size)
				p[place] = zero(b)
				switch {
				case b <= place:
					checkRegions(t, p, []region{{place, place + 1, upTo(b, place), false}})
				case b == place+1:
					checkRegions(t, p, nil)
				default:
					checkRegions(t, p, []region{{place, b, upTo(place+1, b-1), true}})
				}
			}
		}
	}
}

// An InHalt or a circle on one of the ways, or behind both of them.
func TestJoinOfOneBranchWithAnEnd(t *testing.T) {
	for _, size := range []int{4, 9, 13} {
		for b := 2; b < size; b++ {
			for place := 1; place < size; place++ {
				p := nops(size)
				p[0], p[place] = zero(b), halt()
				if place < b {
					checkRegions(t, p, []region{{0, size, append(upTo(1, place), upTo(b, size-1)...), true}})
				} else {
					checkRegions(t, p, []region{{0, b, upTo(1, b-1), true}})
				}
				p[place] = jump(place)
				if place < b {
					checkRegions(t, p, []region{{0, size, append(upTo(1, place), upTo(b, size-1)...), true}})
				} else {
					checkRegions(t, p, []region{{0, size, upTo(1, place), true}})
				}
				p[place] = jump(0)
				if place < b {
					checkRegions(t, p, []region{{0, b, upTo(0, place), false}})
				} else {
					checkRegions(t, p, []region{{0, size, upTo(0, place), false}})
				}
			}
		}
	}
}

func TestJoinOfLongPrograms(t *testing.T) {
	ending, nest, back := []region{}, []region{}, []region{}
	skips, nests, loops := nops(32), nops(32), nops(32)
	for place := range 32 {
		skips[place] = zero(min(place+2, 32))
		loops[place] = zero(0)
		back = append(back, region{place, place + 1, upTo(0, place), false})
		if place < 31 {
			ending = append(ending, region{place, 32, upTo(place+1, 31), true})
		}
		if place < 16 {
			nests[place] = zero(32 - place)
			nest = append(nest, region{place, 32 - place, upTo(place+1, 31-place), true})
		}
	}
	checkRegions(t, slices.Repeat([]impl.Ins{zero(32)}, 32), ending)
	checkRegions(t, skips, ending)
	checkRegions(t, nests, nest)
	checkRegions(t, loops, back)
	checkRegions(t, slices.Repeat([]impl.Ins{halt()}, 32), nil)
	checkRegions(t, nops(32), nil)
}

// The registers that an instruction names do not count.
func TestJoinOfAnyRegister(t *testing.T) {
	for a := range 4 {
		p := []impl.Ins{{Op: impl.InSelf, A: a}, {Op: impl.InZero, A: a, B: 3}, {Op: impl.InSet, A: a, B: 0}, {Op: impl.InBarrier}}
		checkRegions(t, p, []region{{1, 3, []int{2}, true}})
	}
}

// Each other operation than InZero, at each place, has no join.
func TestJoinOfEachOperation(t *testing.T) {
	for _, fact := range insFacts() {
		for place := range 4 {
			p := []impl.Ins{zero(3), {}, {}, {}}
			p[place] = impl.Ins{Op: fact.op, B: 2}
			if !isTransfer(p[place]) {
				p[place].B = 0
			}
			checkRegions(t, p, regionsOf(p))
			if fact.op != 10 {
				checkNoBranch(t, p, place)
			}
		}
	}
}

func TestJoinOfNoBranches(t *testing.T) {
	for _, p := range slices.Concat(validPrograms(), largeFlows()) {
		for _, bad := range notPlaces(len(p)) {
			checkNoBranch(t, p, bad)
		}
		checkNoBranch(t, p, len(p))
		for _, branch := range impl.BranchesOf(p) {
			for _, bad := range append(notPlaces(len(p)), len(p)) {
				if impl.IsInside(p, branch, bad) {
					t.Errorf("IsInside(%v, %d, %d) = true", p, branch, bad)
				}
			}
		}
	}
}

func TestJoinOfInvalidPrograms(t *testing.T) {
	for _, p := range invalidPrograms() {
		for _, branch := range []int{math.MinInt, -1, 0, 1, len(p) / 2, len(p) - 1, len(p), len(p) + 1, 32, 33, math.MaxInt} {
			checkNoBranch(t, p, branch)
		}
		if got := impl.JoinsOf(p); len(got) != 0 {
			t.Errorf("JoinsOf(%v) = %v", p, got)
		}
	}
}

// One instruction that is not valid is enough, even where no way passes it.
func TestJoinOfOneInvalidInstruction(t *testing.T) {
	for _, start := range []impl.Ins{halt(), zero(0), zero(3), jump(3), zero(2)} {
		for _, i := range brokenIns(3) {
			checkRegions(t, []impl.Ins{start, {}, i}, nil)
			checkRegions(t, []impl.Ins{i, start, {}}, nil)
		}
	}
}

// Neither the calls nor a change of their results change the argument or its
// spare capacity.
func TestJoinReturnsNewMemory(t *testing.T) {
	for _, original := range slices.Concat(validPrograms(), largeFlows(), longPrograms(), [][]impl.Ins{{zero(0), {Op: 17}}}) {
		p, whole := guarded(original)
		before := slices.Clone(whole)
		for _, branch := range append(impl.BranchesOf(original), -1, len(p), len(p)+1) {
			for _, list := range []func() []int{
				func() []int { return impl.JoinsOf(p) },
				func() []int { return impl.InsideOf(p, branch) },
			} {
				first, second := list(), list()
				want := slices.Clone(second)
				first = append(first, 77)
				for place := range first[:cap(first)] {
					first[:cap(first)][place] = 78
				}
				if !slices.Equal(second, want) || !slices.Equal(list(), want) {
					t.Fatalf("two results for %v and %d share memory", original, branch)
				}
			}
			checkJoin(t, p, branch, impl.JoinOf(original, branch))
			checkForward(t, p, branch, impl.IsForward(original, branch))
			checkInside(t, p, branch, impl.InsideOf(original, branch))
		}
		if !slices.Equal(whole, before) {
			t.Errorf("the program %v was changed to %v", original, whole)
		}
	}
}

// A program of another call is not remembered: each call starts anew.
func TestJoinsAreNotKept(t *testing.T) {
	for range 3 {
		for _, one := range joinings() {
			checkRegions(t, one.p, one.regions)
		}
	}
}
