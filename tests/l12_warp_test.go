package tests

import (
	"math"
	"slices"
	"testing"

	"loop.example/g00985/impl"
)

// notWarps returns numbers that are no warps, many of which would be if they were
// multiplied by Lanes.
func notWarps() []int {
	return []int{
		-1, -2, -3, -8, -24, -1 << 32, -1 << 61, math.MinInt, math.MinInt + 1, math.MinInt + 2,
		3, 4, 7, 8, 16, 23, 24, 255, 1 << 32, 1<<32 + 1, 1 << 61, 1<<61 + 1, 1<<62 + 2, math.MaxInt - 1, math.MaxInt,
	}
}

// frame returns a frame of the fields in the order of the document.
func frame(pc int, stop int, mask int) impl.Frame {
	return impl.Frame{Pc: pc, Stop: stop, Mask: mask}
}

// distinctRegs returns registers of a warp that all differ: the register r of
// lane i is 1000 + 10*i + r.
func distinctRegs() []int {
	regs := []int{}
	for lane := range 8 {
		for reg := range 4 {
			regs = append(regs, 1000+10*lane+reg)
		}
	}
	return regs
}

// warpRegLists returns registers of warps: all the same, all different, and one
// of them 0 or the largest word.
func warpRegLists() [][]int {
	list := [][]int{make([]int, 32), distinctRegs(), slices.Repeat([]int{65535}, 32), slices.Repeat([]int{0, 65535}, 16)}
	for place := range 32 {
		for _, word := range []int{0, 65535} {
			regs := distinctRegs()
			regs[place] = word
			list = append(list, regs)
		}
	}
	return list
}

// notWarpRegLists returns lists that are not the registers of a warp: too few, too
// many, and those with an element that is no word.
func notWarpRegLists() [][]int {
	list := [][]int{nil, {}}
	for _, size := range []int{1, 4, 8, 16, 28, 31, 33, 36, 64, 1000} {
		list = append(list, make([]int, size), slices.Repeat([]int{7}, size))
	}
	for place := range 32 {
		for _, bad := range notWords() {
			regs := distinctRegs()
			regs[place] = bad
			list = append(list, regs)
		}
	}
	return append(list, append(distinctRegs(), -1), slices.Repeat([]int{65536}, 32))
}

// stackOf returns count frames, at least one, that are valid in a program of size
// instructions, at least one. They differ in each field from those beside them.
func stackOf(count int, size int) []impl.Frame {
	frames := []impl.Frame{frame(size/2, size, 255)}
	for place := 1; place < count; place++ {
		stop := (3*place + 1) % (size + 1)
		pc := (7 * place) % size
		if pc == stop {
			pc = (pc + 1) % size
		}
		if pc == stop {
			// In a program of one instruction, 0 is the only place to be at.
			stop = size
		}
		frames = append(frames, frame(pc, stop, 1+(31*place)%255))
	}
	return frames
}

// stacksOf returns frames that are valid in a program of size instructions, at
// least one: none, one, two, many and as many as there can be.
func stacksOf(size int) [][]impl.Frame {
	list := [][]impl.Frame{nil, {}}
	for pc := range size {
		list = append(list, []impl.Frame{frame(pc, size, 255)})
	}
	for _, count := range []int{2, 3, 4, 8, 23, 24} {
		list = append(list, stackOf(count, size))
		ended := stackOf(count, size)
		for place := range count - 1 {
			// An earlier frame may be where its lanes join, or at the end.
			if place%2 == 0 {
				ended[place].Pc = ended[place].Stop
			} else {
				ended[place].Pc = size
			}
		}
		list = append(list, ended)
	}
	return list
}

// warpsOf returns valid warps over a valid program.
func warpsOf(p []impl.Ins) []impl.Warp {
	stacks := [][]impl.Frame{nil, {}}
	if len(p) > 0 {
		stacks = stacksOf(len(p))
	}
	list := []impl.Warp{}
	for n, frames := range stacks {
		list = append(list, impl.Warp{Number: n % 3, Frames: frames, Regs: warpRegLists()[n%5]})
	}
	return list
}

// fewPrograms returns some programs of different sizes that are not empty.
func fewPrograms() [][]impl.Ins {
	return [][]impl.Ins{nops(1), {halt()}, {jump(0)}, {zero(1), {}}, {self(0), halt(), {}}, doubling(), counting(), sharing(), numbered(31), nops(32), numbered(32)}
}

// notFrames returns frames that are not valid in a program of size instructions,
// each for one reason and wherever in the list they are.
func notFrames(size int) []impl.Frame {
	list := []impl.Frame{}
	for _, bad := range notPlaces(size) {
		list = append(list, frame(bad, size, 255), frame(0, bad, 255))
	}
	for _, bad := range append(notMasks(), 0) {
		list = append(list, frame(0, size, bad))
	}
	return list
}

// brokenStacks returns lists of frames that are not valid in a program of size
// instructions, at least one, most of them for one reason alone.
func brokenStacks(size int) [][]impl.Frame {
	list := [][]impl.Frame{stackOf(25, size), stackOf(26, size), stackOf(48, size), stackOf(1000, size)}
	for _, count := range []int{1, 2, 3, 24} {
		for _, place := range []int{0, count / 2, count - 1} {
			for _, bad := range notFrames(size) {
				frames := stackOf(count, size)
				frames[place] = bad
				list = append(list, frames)
			}
		}
		for stop := range size {
			frames := stackOf(count, size)
			frames[0] = frame(size-1-stop, stop, 255)
			list = append(list, frames)
			frames = stackOf(count, size)
			frames[count-1].Pc, frames[count-1].Stop = stop, stop
			list = append(list, frames)
		}
		for mask := 1; mask < 255; mask++ {
			frames := stackOf(count, size)
			frames[0].Mask = mask
			list = append(list, frames)
		}
		for stop := range size + 1 {
			frames := stackOf(count, size)
			frames[count-1].Pc, frames[count-1].Stop = size, stop
			list = append(list, frames)
		}
	}
	return list
}

// isStack reports whether a list can be the frames of a warp over a program of
// size instructions, as chapter 12 describes it: one condition after the other.
func isStack(frames []impl.Frame, size int) bool {
	faults := 0
	for place, f := range frames {
		places := slices.Contains(upTo(0, size), f.Pc) && slices.Contains(upTo(0, size), f.Stop)
		mask := slices.Contains(upTo(1, 255), f.Mask)
		begun := place > 0 || f.Stop == size && f.Mask == 255
		active := place < len(frames)-1 || f.Pc != f.Stop && f.Pc != size
		if !places || !mask || !begun || !active {
			faults++
		}
	}
	return faults == 0 && len(frames) <= 24
}

func equalWarps(a impl.Warp, b impl.Warp) bool {
	return a.Number == b.Number && slices.Equal(a.Frames, b.Frames) && slices.Equal(a.Regs, b.Regs)
}

func checkWarp(t *testing.T, p []impl.Ins, w impl.Warp, valid bool) {
	t.Helper()
	if got := impl.WarpOk(p, w); got != valid {
		t.Errorf("WarpOk(%v, %v) = %v", p, w, got)
	}
	if got := impl.WarpEnded(p, w); got != (valid && len(w.Frames) == 0) {
		t.Errorf("WarpEnded(%v, %v) = %v", p, w, got)
	}
}

func checkNewWarp(t *testing.T, p []impl.Ins, number int, want impl.Warp) {
	t.Helper()
	if got, ok := impl.WarpNew(p, number); !ok || !equalWarps(got, want) {
		t.Errorf("WarpNew(%v, %d) = %v, %v, not %v", p, number, got, ok, want)
	}
}

func checkNoWarp(t *testing.T, p []impl.Ins, number int) {
	t.Helper()
	if got, ok := impl.WarpNew(p, number); ok || !equalWarps(got, impl.Warp{}) {
		t.Errorf("WarpNew(%v, %d) = %v, %v", p, number, got, ok)
	}
}

func checkActive(t *testing.T, w impl.Warp, want int) {
	t.Helper()
	if got := impl.ActiveMask(w); got != want {
		t.Errorf("ActiveMask(%v) = %d, not %d", w, got, want)
	}
}

func checkLaneRegs(t *testing.T, w impl.Warp, lane int, want []int) {
	t.Helper()
	if got := impl.LaneRegs(w, lane); !slices.Equal(got, want) {
		t.Errorf("LaneRegs(%v, %d) = %v, not %v", w, lane, got, want)
	}
}

// checkAllRegs checks the registers of each lane, taken one by one, and that there
// are no others.
func checkAllRegs(t *testing.T, w impl.Warp) {
	t.Helper()
	for lane := range 8 {
		want := []int{w.Regs[lane*4], w.Regs[lane*4+1], w.Regs[lane*4+2], w.Regs[lane*4+3]}
		checkLaneRegs(t, w, lane, want)
	}
	for _, bad := range notLanes() {
		checkLaneRegs(t, w, bad, nil)
	}
}

func TestMaxFrames(t *testing.T) {
	if impl.MaxFrames != 24 {
		t.Errorf("MaxFrames = %d", impl.MaxFrames)
	}
}

func TestWarpNewExamples(t *testing.T) {
	for number := range 3 {
		checkNewWarp(t, doubling(), number, impl.Warp{Number: number, Frames: []impl.Frame{frame(0, 8, 255)}, Regs: make([]int, 32)})
		checkNewWarp(t, counting(), number, impl.Warp{Number: number, Frames: []impl.Frame{frame(0, 7, 255)}, Regs: make([]int, 32)})
		checkNewWarp(t, []impl.Ins{halt()}, number, impl.Warp{Number: number, Frames: []impl.Frame{frame(0, 1, 255)}, Regs: make([]int, 32)})
		checkNewWarp(t, []impl.Ins{jump(1)}, number, impl.Warp{Number: number, Frames: []impl.Frame{frame(0, 1, 255)}, Regs: make([]int, 32)})
		checkNewWarp(t, nil, number, impl.Warp{Number: number, Regs: make([]int, 32)})
		checkNewWarp(t, []impl.Ins{}, number, impl.Warp{Number: number, Regs: make([]int, 32)})
	}
}

func TestWarpNewOfAllSizes(t *testing.T) {
	for size := range 70 {
		for number := range 3 {
			for _, p := range [][]impl.Ins{nops(size), numbered(size)} {
				want := impl.Warp{Number: number, Regs: make([]int, 32)}
				if size > 0 {
					want.Frames = []impl.Frame{frame(0, size, 255)}
				}
				if size > 32 {
					checkNoWarp(t, p, number)
				} else {
					checkNewWarp(t, p, number, want)
				}
				checkWarp(t, p, want, size <= 32)
			}
		}
	}
}

func TestWarpNewOfNoWarps(t *testing.T) {
	for _, p := range append(fewPrograms(), nil, []impl.Ins{}) {
		for _, bad := range notWarps() {
			checkNoWarp(t, p, bad)
		}
		for number := -40; number < 80; number++ {
			if number < 0 || number > 2 {
				checkNoWarp(t, p, number)
			}
		}
	}
}

func TestWarpNewOfInvalidPrograms(t *testing.T) {
	for _, p := range invalidPrograms() {
		for _, number := range []int{0, 1, 2, -1, 3} {
			checkNoWarp(t, p, number)
		}
	}
}

// Promise 12: a new warp is valid, and its lanes are new. Over an empty program it
// has ended.
func TestNewWarps(t *testing.T) {
	for _, p := range append(validPrograms(), fewPrograms()...) {
		for number := range 3 {
			w, ok := impl.WarpNew(p, number)
			if !ok || w.Number != number || !impl.WarpOk(p, w) || impl.WarpEnded(p, w) != (len(p) == 0) {
				t.Fatalf("WarpNew(%v, %d) = %v, %v, valid %v, ended %v", p, number, w, ok, impl.WarpOk(p, w), impl.WarpEnded(p, w))
			}
			checkActive(t, w, map[bool]int{false: 255}[len(p) == 0])
			for lane := range 8 {
				l := impl.LaneNew(8*number + lane)
				checkLaneRegs(t, w, lane, l.Regs)
				if !impl.LaneOk(p, impl.Lane{Thread: 8*w.Number + lane, Pc: l.Pc, Regs: impl.LaneRegs(w, lane)}) {
					t.Errorf("lane %d of WarpNew(%v, %d) is not valid", lane, p, number)
				}
				if len(p) > 0 && w.Frames[0].Pc != l.Pc {
					t.Errorf("WarpNew(%v, %d) = %v begins elsewhere", p, number, w)
				}
			}
		}
	}
}

// Warps in the middle of a program, written by hand, and others that differ from
// them in one field.
func TestWarpOkExamples(t *testing.T) {
	for _, c := range []struct {
		p      []impl.Ins
		frames []impl.Frame
		valid  bool
		active int
	}{
		{doubling(), nil, true, 0},
		{doubling(), []impl.Frame{frame(0, 8, 255)}, true, 255},
		{doubling(), []impl.Frame{frame(7, 8, 255)}, true, 255},
		{doubling(), []impl.Frame{frame(8, 8, 255)}, false, 255},
		{doubling(), []impl.Frame{frame(3, 7, 255)}, false, 255},
		{doubling(), []impl.Frame{frame(3, 0, 255)}, false, 255},
		{doubling(), []impl.Frame{frame(3, 8, 254)}, false, 254},
		{doubling(), []impl.Frame{frame(7, 8, 255), frame(4, 7, 7), frame(6, 7, 248)}, true, 248},
		{doubling(), []impl.Frame{frame(7, 8, 255), frame(4, 7, 7)}, true, 7},
		{doubling(), []impl.Frame{frame(7, 8, 255), frame(7, 7, 7), frame(6, 7, 248)}, true, 248},
		{doubling(), []impl.Frame{frame(7, 8, 255), frame(8, 7, 7), frame(6, 7, 248)}, true, 248},
		{doubling(), []impl.Frame{frame(8, 8, 255), frame(6, 7, 248)}, true, 248},
		{doubling(), []impl.Frame{frame(7, 8, 255), frame(4, 7, 7), frame(7, 7, 248)}, false, 248},
		{doubling(), []impl.Frame{frame(7, 8, 255), frame(4, 7, 7), frame(8, 7, 248)}, false, 248},
		{doubling(), []impl.Frame{frame(7, 8, 255), frame(4, 7, 7), frame(6, 7, 0)}, false, 0},
		{doubling(), []impl.Frame{frame(7, 8, 255), frame(4, 7, 0), frame(6, 7, 1)}, false, 1},
		{doubling(), []impl.Frame{frame(7, 8, 255), frame(4, 7, 7), frame(6, 7, 256)}, false, 256},
		{doubling(), []impl.Frame{frame(7, 8, 255), frame(4, 7, 7), frame(6, 7, -1)}, false, -1},
		{doubling(), []impl.Frame{frame(7, 8, 255), frame(4, 9, 7), frame(6, 7, 2)}, false, 2},
		{doubling(), []impl.Frame{frame(7, 8, 255), frame(-1, 7, 7), frame(6, 7, 2)}, false, 2},
		// The last frame may have any lanes, also such as an earlier one does not have.
		{doubling(), []impl.Frame{frame(7, 8, 255), frame(4, 7, 7), frame(6, 0, 255)}, true, 255},
		{doubling(), []impl.Frame{frame(7, 8, 255), frame(4, 8, 1), frame(0, 8, 128)}, true, 128},
		{counting(), []impl.Frame{frame(6, 7, 255), frame(2, 6, 254)}, true, 254},
		{counting(), []impl.Frame{frame(6, 7, 255), frame(2, 6, 254), frame(3, 6, 128)}, true, 128},
		{[]impl.Ins{halt()}, []impl.Frame{frame(0, 1, 255)}, true, 255},
		{[]impl.Ins{halt()}, []impl.Frame{frame(0, 0, 255)}, false, 255},
		{[]impl.Ins{halt()}, []impl.Frame{frame(1, 1, 255)}, false, 255},
		{nil, nil, true, 0},
		{nil, []impl.Frame{{}}, false, 0},
		{nil, []impl.Frame{frame(0, 0, 255)}, false, 255},
		{nil, []impl.Frame{frame(0, 0, 255), frame(0, 0, 3)}, false, 3},
	} {
		for number := range 3 {
			w := impl.Warp{Number: number, Frames: c.frames, Regs: distinctRegs()}
			checkWarp(t, c.p, w, c.valid)
			checkActive(t, w, c.active)
			checkAllRegs(t, w)
		}
	}
}

func TestWarpOk(t *testing.T) {
	for _, p := range validPrograms() {
		for _, w := range warpsOf(p) {
			checkWarp(t, p, w, true)
			if len(w.Frames) > 0 {
				checkActive(t, w, w.Frames[len(w.Frames)-1].Mask)
			} else {
				checkActive(t, w, 0)
			}
		}
	}
}

// Each list of one or two frames whose fields are around their limits.
func TestWarpOkOfAllFrames(t *testing.T) {
	for size := range 4 {
		all := []impl.Frame{}
		for pc := -1; pc <= size+1; pc++ {
			for stop := -1; stop <= size+1; stop++ {
				for _, mask := range []int{-1, 0, 1, 128, 254, 255, 256} {
					all = append(all, frame(pc, stop, mask))
				}
			}
		}
		for _, first := range all {
			one := []impl.Frame{first}
			checkWarp(t, nops(size), impl.Warp{Frames: one, Regs: distinctRegs()}, isStack(one, size))
			for _, last := range all {
				two := []impl.Frame{first, last}
				checkWarp(t, nops(size), impl.Warp{Frames: two, Regs: distinctRegs()}, isStack(two, size))
			}
		}
	}
}

// Each frame between a first and a last one that are valid.
func TestWarpOkOfMiddleFrames(t *testing.T) {
	for _, size := range []int{1, 2, 8, 32} {
		for pc := -2; pc <= size+2; pc++ {
			for stop := -2; stop <= size+2; stop++ {
				for _, mask := range []int{-1, 0, 1, 2, 85, 128, 254, 255, 256, 257} {
					frames := []impl.Frame{frame(0, size, 255), frame(pc, stop, mask), frame(0, size, 16)}
					checkWarp(t, numbered(size), impl.Warp{Number: 1, Frames: frames, Regs: distinctRegs()}, isStack(frames, size))
				}
			}
		}
	}
}

// A frame may have any lanes but none at all; the first one has them all.
func TestWarpOkOfAllMasks(t *testing.T) {
	for mask := -300; mask < 600; mask++ {
		good := mask > 0 && mask <= 255
		for _, c := range []struct {
			frames []impl.Frame
			valid  bool
		}{
			{[]impl.Frame{frame(2, 8, mask)}, mask == 255},
			{[]impl.Frame{frame(7, 8, mask), frame(4, 7, 3)}, mask == 255},
			{[]impl.Frame{frame(7, 8, 255), frame(4, 7, mask)}, good},
			{[]impl.Frame{frame(7, 8, 255), frame(4, 7, mask), frame(6, 7, 5)}, good},
			{[]impl.Frame{frame(7, 8, 255), frame(4, 7, 5), frame(6, 7, mask)}, good},
		} {
			w := impl.Warp{Number: 2, Frames: c.frames, Regs: distinctRegs()}
			checkWarp(t, doubling(), w, c.valid)
			checkActive(t, w, c.frames[len(c.frames)-1].Mask)
		}
	}
}

func TestWarpOkOfManyFrames(t *testing.T) {
	for _, p := range fewPrograms() {
		for count := 1; count < 60; count++ {
			w := impl.Warp{Number: 1, Frames: stackOf(count, len(p)), Regs: distinctRegs()}
			checkWarp(t, p, w, count <= 24)
			checkActive(t, w, w.Frames[count-1].Mask)
			w.Frames = slices.Repeat([]impl.Frame{frame(0, len(p), 255)}, count)
			checkWarp(t, p, w, count <= 24)
			checkActive(t, w, 255)
		}
	}
}

func TestWarpOkOfBrokenFrames(t *testing.T) {
	for _, p := range fewPrograms() {
		for n, frames := range brokenStacks(len(p)) {
			if isStack(frames, len(p)) {
				t.Fatalf("%v is not broken in %d instructions", frames, len(p))
			}
			w := impl.Warp{Number: n % 3, Frames: frames, Regs: distinctRegs()}
			checkWarp(t, p, w, false)
			checkActive(t, w, frames[len(frames)-1].Mask)
		}
	}
}

// No frame fits into an empty program: it would be at the end at once.
func TestWarpOkOfEmptyPrograms(t *testing.T) {
	for _, p := range [][]impl.Ins{nil, {}, make([]impl.Ins, 0, 9)} {
		for number := range 3 {
			for _, regs := range warpRegLists() {
				checkWarp(t, p, impl.Warp{Number: number, Regs: regs}, true)
				checkWarp(t, p, impl.Warp{Number: number, Frames: []impl.Frame{}, Regs: regs}, true)
			}
			for pc := -1; pc < 2; pc++ {
				for stop := -1; stop < 2; stop++ {
					for _, mask := range []int{-1, 0, 1, 255, 256} {
						for count := 1; count < 30; count++ {
							frames := slices.Repeat([]impl.Frame{frame(pc, stop, mask)}, count)
							checkWarp(t, p, impl.Warp{Number: number, Frames: frames, Regs: make([]int, 32)}, false)
						}
					}
				}
			}
		}
	}
}

func TestWarpOkOfNumbers(t *testing.T) {
	for _, p := range append(fewPrograms(), nil) {
		for _, w := range warpsOf(p) {
			for number := -40; number < 80; number++ {
				w.Number = number
				checkWarp(t, p, w, number >= 0 && number <= 2)
			}
			for _, bad := range notWarps() {
				w.Number = bad
				checkWarp(t, p, w, false)
				checkAllRegs(t, w)
			}
		}
	}
}

func TestWarpOkOfRegisters(t *testing.T) {
	for _, p := range append(fewPrograms(), nil) {
		for _, regs := range warpRegLists() {
			begun, _ := impl.WarpNew(p, 1)
			begun.Regs = regs
			checkWarp(t, p, begun, true)
			checkAllRegs(t, begun)
			checkWarp(t, p, impl.Warp{Number: 2, Regs: regs}, true)
		}
		for _, regs := range notWarpRegLists() {
			begun, _ := impl.WarpNew(p, 1)
			begun.Regs = regs
			checkWarp(t, p, begun, false)
			checkWarp(t, p, impl.Warp{Number: 2, Regs: regs}, false)
		}
	}
}

func TestWarpOkOfEdgeWords(t *testing.T) {
	for place := range 32 {
		for _, good := range edgeWords() {
			w, _ := impl.WarpNew(doubling(), 0)
			w.Regs[place] = good
			checkWarp(t, doubling(), w, true)
			checkAllRegs(t, w)
		}
		for _, bad := range notWords() {
			w, _ := impl.WarpNew(doubling(), 0)
			w.Regs[place] = bad
			checkWarp(t, doubling(), w, false)
			checkAllRegs(t, w)
		}
	}
}

func TestWarpsOfInvalidPrograms(t *testing.T) {
	for _, p := range invalidPrograms() {
		for number := range 3 {
			for _, frames := range [][]impl.Frame{nil, {frame(0, len(p), 255)}, {frame(0, 32, 255)}, {frame(len(p), len(p), 255), frame(0, len(p), 3)}} {
				checkWarp(t, p, impl.Warp{Number: number, Frames: frames, Regs: distinctRegs()}, false)
			}
		}
	}
}

// One instruction that is not valid is enough, also where no lane reaches it.
func TestWarpOfOneInvalidInstruction(t *testing.T) {
	for _, i := range brokenIns(3) {
		for place := range 3 {
			p := []impl.Ins{jump(1), halt(), self(1)}
			checkWarp(t, p, impl.Warp{Frames: []impl.Frame{frame(1, 3, 255)}, Regs: distinctRegs()}, true)
			p[place] = i
			for pc := range 3 {
				checkWarp(t, p, impl.Warp{Frames: []impl.Frame{frame(pc, 3, 255)}, Regs: distinctRegs()}, false)
			}
			checkWarp(t, p, impl.Warp{Regs: distinctRegs()}, false)
			checkNoWarp(t, p, 0)
		}
	}
}

// A warp that is valid in one program need not be in another one.
func TestWarpOfAnotherProgram(t *testing.T) {
	for size := 1; size <= 32; size++ {
		w, _ := impl.WarpNew(nops(size), 0)
		for other := range 40 {
			checkWarp(t, nops(other), w, other == size)
		}
		w.Frames = append(w.Frames, frame(0, size, 9))
		for other := range 40 {
			checkWarp(t, nops(other), w, other == size)
		}
		w.Frames = nil
		for other := range 40 {
			checkWarp(t, nops(other), w, other <= 32)
		}
	}
}

// ActiveMask does not check the warp: neither its registers and its number, nor
// the mask itself.
func TestActiveMaskOfAnyWarp(t *testing.T) {
	checkActive(t, impl.Warp{}, 0)
	checkActive(t, impl.Warp{Number: 5, Regs: distinctRegs()}, 0)
	checkActive(t, impl.Warp{Number: -1, Frames: []impl.Frame{}, Regs: []int{-1}}, 0)
	checkActive(t, impl.Warp{Number: math.MinInt, Frames: []impl.Frame{frame(-1, 99, 6)}}, 6)
	for _, mask := range append(notMasks(), 0, 1, 2, 128, 254, 255) {
		for count := range 40 {
			frames := append(slices.Repeat([]impl.Frame{frame(40, -3, 77)}, count), frame(-9, 99, mask))
			checkActive(t, impl.Warp{Frames: frames}, mask)
			checkActive(t, impl.Warp{Number: 3, Frames: frames, Regs: []int{1}}, mask)
			checkActive(t, impl.Warp{Frames: append(frames, frame(0, 0, 4)), Regs: distinctRegs()}, 4)
		}
	}
}

func TestLaneRegsExamples(t *testing.T) {
	w := impl.Warp{Number: 1, Frames: []impl.Frame{frame(3, 8, 255)}, Regs: distinctRegs()}
	checkLaneRegs(t, w, 0, []int{1000, 1001, 1002, 1003})
	checkLaneRegs(t, w, 1, []int{1010, 1011, 1012, 1013})
	checkLaneRegs(t, w, 4, []int{1040, 1041, 1042, 1043})
	checkLaneRegs(t, w, 7, []int{1070, 1071, 1072, 1073})
	checkLaneRegs(t, w, 8, nil)
	checkLaneRegs(t, w, -1, nil)
	for lane := -40; lane < 80; lane++ {
		if lane < 0 || lane > 7 {
			checkLaneRegs(t, w, lane, nil)
		}
	}
}

// LaneRegs looks at the number of the registers alone: not at the number of the
// warp or its frames, and not at the values.
func TestLaneRegsOfAnyWarp(t *testing.T) {
	for _, regs := range slices.Concat(warpRegLists(), notWarpRegLists()) {
		for _, w := range []impl.Warp{
			{Regs: regs},
			{Number: 3, Regs: regs},
			{Number: -1, Frames: []impl.Frame{frame(-1, 40, 0)}, Regs: regs},
			{Number: math.MaxInt, Frames: make([]impl.Frame, 30), Regs: regs},
		} {
			if len(regs) == 32 {
				checkAllRegs(t, w)
				continue
			}
			for _, lane := range append(notLanes(), 0, 1, 2, 3, 4, 5, 6, 7) {
				checkLaneRegs(t, w, lane, nil)
			}
		}
	}
}

func TestLaneRegsOfSizes(t *testing.T) {
	for size := range 100 {
		w := impl.Warp{Regs: make([]int, size, 200)}
		for lane := -10; lane < 20; lane++ {
			var want []int
			if size == 32 && lane >= 0 && lane < 8 {
				want = []int{0, 0, 0, 0}
			}
			checkLaneRegs(t, w, lane, want)
		}
	}
}

// The registers of all lanes, one after the other, are those of the warp.
func TestLaneRegsOfAllLanes(t *testing.T) {
	for _, regs := range warpRegLists() {
		all := []int{}
		for lane := range 8 {
			all = append(all, impl.LaneRegs(impl.Warp{Regs: regs}, lane)...)
		}
		if !slices.Equal(all, regs) {
			t.Errorf("the lanes of %v have %v", regs, all)
		}
	}
}

// guardedFrames returns frames with marked spare capacity behind them.
func guardedFrames(frames []impl.Frame) (list []impl.Frame, whole []impl.Frame) {
	whole = slices.Concat(frames, slices.Repeat([]impl.Frame{frame(91, 92, 93)}, 30))
	return whole[:len(frames)], whole
}

// overwriteWarp changes the frames and registers of a warp and their spare
// capacity.
func overwriteWarp(w impl.Warp) {
	overwrite(w.Regs)
	frames := append(w.Frames, frame(81, 82, 83))
	for place := range frames[:cap(frames)] {
		frames[:cap(frames)][place] = frame(84, 85, 86)
	}
}

func TestWarpNewReturnsNewMemory(t *testing.T) {
	for _, original := range append(fewPrograms(), nil, []impl.Ins{}, nops(33), []impl.Ins{{Op: 17}}) {
		p, whole := guarded(original)
		before := slices.Clone(whole)
		for number := -1; number < 4; number++ {
			first, ok := impl.WarpNew(p, number)
			second, _ := impl.WarpNew(p, number)
			want := impl.Warp{Number: second.Number, Frames: slices.Clone(second.Frames), Regs: slices.Clone(second.Regs)}
			overwriteWarp(first)
			third, again := impl.WarpNew(p, number)
			if !equalWarps(second, want) || !equalWarps(third, want) || ok != again {
				t.Errorf("a change of one result of WarpNew(%v, %d) changed others to %v and %v", original, number, second, third)
			}
			if ok != (number >= 0 && number < 3 && impl.ProgramOk(original)) {
				t.Errorf("the spare capacity behind %v counts", original)
			}
		}
		if !slices.Equal(whole, before) {
			t.Errorf("the program %v was changed to %v", original, whole)
		}
	}
}

// A change of the registers of a lane changes neither the warp nor other lanes,
// and what is appended to them does not get into the next lane.
func TestLaneRegsReturnsNewMemory(t *testing.T) {
	for _, regs := range slices.Concat(warpRegLists(), notWarpRegLists()[:30]) {
		for lane := -1; lane < 9; lane++ {
			checkMemory(t, regs, func(regs []int) []int { return impl.LaneRegs(impl.Warp{Regs: regs}, lane) })
		}
	}
	w := impl.Warp{Regs: distinctRegs()}
	for lane := range 8 {
		overwrite(impl.LaneRegs(w, lane))
		_ = append(impl.LaneRegs(w, lane), 1, 2, 3, 4)
		if !slices.Equal(w.Regs, distinctRegs()) {
			t.Fatalf("a change of the registers of lane %d makes %v of the warp", lane, w.Regs)
		}
	}
}

// The functions change neither the program and the warp nor their spare capacity,
// and do not look there.
func TestWarpsAreLeft(t *testing.T) {
	for _, original := range append(fewPrograms(), nil, []impl.Ins{}, nops(33), []impl.Ins{{Op: 17}}) {
		list := []impl.Warp{{}, {Frames: []impl.Frame{frame(0, 1, 0)}}, {Number: 3, Regs: []int{1, 2}}}
		if len(original) < 33 {
			list = append(list, warpsOf(original)...)
		}
		p, program := guarded(original)
		programBefore := slices.Clone(program)
		for _, w := range list {
			frames, allFrames := guardedFrames(w.Frames)
			regs, allRegs := guardedRegs(w.Regs)
			framesBefore, regsBefore := slices.Clone(allFrames), slices.Clone(allRegs)
			same := impl.Warp{Number: w.Number, Frames: frames, Regs: regs}
			checkWarp(t, p, same, impl.WarpOk(original, w))
			checkActive(t, same, impl.ActiveMask(w))
			for lane := -1; lane < 9; lane++ {
				checkLaneRegs(t, same, lane, impl.LaneRegs(w, lane))
			}
			if !slices.Equal(allFrames, framesBefore) || !slices.Equal(allRegs, regsBefore) {
				t.Errorf("the warp %v was changed to %v, %v", w, allFrames, allRegs)
			}
		}
		if !slices.Equal(program, programBefore) {
			t.Errorf("the program %v was changed to %v", original, program)
		}
	}
}

// A warp of another call is not remembered: each call starts anew.
func TestWarpsAreNotKept(t *testing.T) {
	for range 3 {
		TestWarpNewExamples(t)
		TestWarpOkExamples(t)
		TestLaneRegsExamples(t)
	}
}
