package tests

import (
	"math"
	"slices"
	"testing"

	"loop.example/g00985/impl"
)

// notMasks returns numbers that are no masks, many of which would be masks if
// they were cut to their lowest bits.
func notMasks() []int {
	return []int{
		-1, -2, -8, -128, -255, -256, -257, -512, -1 << 32, math.MinInt, math.MinInt + 1, math.MinInt + 255,
		256, 257, 258, 384, 511, 512, 65535, 65536, 1 << 31, 1 << 32, 1<<32 + 3, math.MaxInt - 1, math.MaxInt,
	}
}

// notLanes returns numbers that are no lanes. Shifts by many of them panic, or
// give the bit of a lane if they are cut.
func notLanes() []int {
	return []int{
		-1, -2, -7, -8, -9, -63, -64, -256, math.MinInt, math.MinInt + 1,
		8, 9, 15, 16, 31, 32, 33, 63, 64, 65, 71, 255, 256, 1 << 32, math.MaxInt,
	}
}

// lanesByDivision returns the lanes of a mask, found without operations on bits.
func lanesByDivision(mask int) []int {
	lanes := []int{}
	for lane := 0; mask > 0; lane++ {
		if mask%2 == 1 {
			lanes = append(lanes, lane)
		}
		mask /= 2
	}
	return lanes
}

// maskBySum returns the sum of the values of all lanes of a list, each once.
func maskBySum(lanes []int) int {
	values := []int{1, 2, 4, 8, 16, 32, 64, 128}
	sum := 0
	for lane, value := range values {
		if slices.Contains(lanes, lane) {
			sum += value
		}
	}
	return sum
}

func TestMaskConstants(t *testing.T) {
	if impl.Lanes != 8 || impl.FullMask != 255 {
		t.Errorf("Lanes = %d, FullMask = %d", impl.Lanes, impl.FullMask)
	}
}

func TestMaskExamples(t *testing.T) {
	for _, c := range []struct {
		mask  int
		lanes []int
	}{
		{0, []int{}},
		{1, []int{0}},
		{2, []int{1}},
		{4, []int{2}},
		{8, []int{3}},
		{16, []int{4}},
		{32, []int{5}},
		{64, []int{6}},
		{128, []int{7}},
		{3, []int{0, 1}},
		{129, []int{0, 7}},
		{130, []int{1, 7}},
		{85, []int{0, 2, 4, 6}},
		{170, []int{1, 3, 5, 7}},
		{127, []int{0, 1, 2, 3, 4, 5, 6}},
		{254, []int{1, 2, 3, 4, 5, 6, 7}},
		{255, []int{0, 1, 2, 3, 4, 5, 6, 7}},
	} {
		if !impl.IsMask(c.mask) || impl.CountLanes(c.mask) != len(c.lanes) || !slices.Equal(impl.LanesOf(c.mask), c.lanes) {
			t.Errorf("mask %d: %v, %d lanes, %v", c.mask, impl.IsMask(c.mask), impl.CountLanes(c.mask), impl.LanesOf(c.mask))
		}
		if mask, ok := impl.MaskOf(c.lanes); !ok || mask != c.mask {
			t.Errorf("MaskOf(%v) = %d, %v", c.lanes, mask, ok)
		}
		for lane := range 8 {
			if got := impl.HasLane(c.mask, lane); got != slices.Contains(c.lanes, lane) {
				t.Errorf("HasLane(%d, %d) = %v", c.mask, lane, got)
			}
		}
	}
}

func TestEveryMask(t *testing.T) {
	for mask := range 256 {
		want := lanesByDivision(mask)
		if !impl.IsMask(mask) {
			t.Errorf("IsMask(%d) = false", mask)
		}
		if got := impl.CountLanes(mask); got != len(want) {
			t.Errorf("CountLanes(%d) = %d", mask, got)
		}
		if got := impl.LanesOf(mask); !slices.Equal(got, want) {
			t.Errorf("LanesOf(%d) = %v", mask, got)
		}
		for lane := range 8 {
			if got := impl.HasLane(mask, lane); got != slices.Contains(want, lane) {
				t.Errorf("HasLane(%d, %d) = %v", mask, lane, got)
			}
		}
	}
}

// Promise 3: a mask is given by its lanes, in whatever order and however often
// they are listed.
func TestMaskIsGivenByItsLanes(t *testing.T) {
	for mask := range 256 {
		lanes := impl.LanesOf(mask)
		backward := slices.Clone(lanes)
		slices.Reverse(backward)
		for _, list := range [][]int{lanes, backward, slices.Concat(lanes, backward), slices.Concat(backward, lanes, lanes)} {
			if got, ok := impl.MaskOf(list); !ok || got != mask {
				t.Errorf("MaskOf(%v) = %d, %v, not %d", list, got, ok, mask)
			}
		}
	}
}

// The lanes of the mask of a list are those of the list, ascending, each once.
func TestLanesOfTheMaskOfAList(t *testing.T) {
	for a := range 8 {
		for b := range 8 {
			for c := range 8 {
				list := []int{a, b, c}
				mask, ok := impl.MaskOf(list)
				if !ok || mask != maskBySum(list) {
					t.Errorf("MaskOf(%v) = %d, %v", list, mask, ok)
				}
				slices.Sort(list)
				if got, want := impl.LanesOf(mask), slices.Compact(list); !slices.Equal(got, want) {
					t.Errorf("the lanes of the mask of %v are %v", want, got)
				}
			}
		}
	}
}

func TestMaskOfLists(t *testing.T) {
	for _, c := range []struct {
		lanes []int
		want  int
	}{
		{nil, 0},
		{[]int{}, 0},
		{[]int{0, 0}, 1},
		{[]int{7, 1, 1}, 130},
		{[]int{7, 7, 7, 7}, 128},
		{[]int{0, 0, 1, 1}, 3},
		{[]int{7, 6, 5, 4, 3, 2, 1, 0}, 255},
		{slices.Repeat([]int{3, 5}, 500), 40},
	} {
		if got, ok := impl.MaskOf(c.lanes); !ok || got != c.want {
			t.Errorf("MaskOf(%v) = %d, %v, not %d", c.lanes, got, ok, c.want)
		}
	}
}

func TestNoMasks(t *testing.T) {
	for _, bad := range notMasks() {
		if impl.IsMask(bad) {
			t.Errorf("IsMask(%d) = true", bad)
		}
		if got := impl.CountLanes(bad); got != -1 {
			t.Errorf("CountLanes(%d) = %d", bad, got)
		}
		if got := impl.LanesOf(bad); len(got) != 0 {
			t.Errorf("LanesOf(%d) = %v", bad, got)
		}
		for _, lane := range append(notLanes(), 0, 1, 2, 3, 4, 5, 6, 7) {
			if impl.HasLane(bad, lane) {
				t.Errorf("HasLane(%d, %d) = true", bad, lane)
			}
		}
	}
}

func TestHasLaneOfNoLane(t *testing.T) {
	for mask := range 256 {
		for _, bad := range notLanes() {
			if impl.HasLane(mask, bad) {
				t.Errorf("HasLane(%d, %d) = true", mask, bad)
			}
		}
	}
}

func TestMaskOfNoLanes(t *testing.T) {
	lanes := []int{0, 1, 2, 3, 4, 5, 6, 7}
	for _, bad := range notLanes() {
		if got, ok := impl.MaskOf([]int{bad}); ok || got != 0 {
			t.Errorf("MaskOf of %d alone = %d, %v", bad, got, ok)
		}
		for place := range len(lanes) + 1 {
			list := slices.Insert(slices.Clone(lanes), place, bad)
			if got, ok := impl.MaskOf(list); ok || got != 0 {
				t.Errorf("MaskOf(%v) = %d, %v", list, got, ok)
			}
		}
	}
}

func TestSplitMaskExamples(t *testing.T) {
	for _, c := range []struct{ mask, other, both, alone int }{
		{0, 0, 0, 0},
		{0, 255, 0, 0},
		{255, 0, 0, 255},
		{255, 255, 255, 0},
		{15, 6, 6, 9},
		{6, 15, 6, 0},
		{15, 240, 0, 15},
		{240, 15, 0, 240},
		{130, 129, 128, 2},
		{255, 128, 128, 127},
		{1, 254, 0, 1},
	} {
		if both, alone := impl.SplitMask(c.mask, c.other); both != c.both || alone != c.alone {
			t.Errorf("SplitMask(%d, %d) = %d, %d", c.mask, c.other, both, alone)
		}
	}
}

// Each lane is in the first part if both masks have it, and in the second one
// if only mask has it.
func TestSplitMaskOfEveryPair(t *testing.T) {
	for mask := range 256 {
		for other := range 256 {
			both, alone := []int{}, []int{}
			for _, lane := range lanesByDivision(mask) {
				if slices.Contains(lanesByDivision(other), lane) {
					both = append(both, lane)
				} else {
					alone = append(alone, lane)
				}
			}
			gotBoth, gotAlone := impl.SplitMask(mask, other)
			if gotBoth != maskBySum(both) || gotAlone != maskBySum(alone) {
				t.Fatalf("SplitMask(%d, %d) = %d, %d", mask, other, gotBoth, gotAlone)
			}
		}
	}
}

func TestSplitMaskOfNoMasks(t *testing.T) {
	for _, bad := range notMasks() {
		for _, other := range append(notMasks(), 0, 1, 2, 15, 128, 254, 255) {
			if both, alone := impl.SplitMask(bad, other); both != 0 || alone != 0 {
				t.Errorf("SplitMask(%d, %d) = %d, %d", bad, other, both, alone)
			}
			if both, alone := impl.SplitMask(other, bad); both != 0 || alone != 0 {
				t.Errorf("SplitMask(%d, %d) = %d, %d", other, bad, both, alone)
			}
		}
	}
}

func TestMaskOfLeavesItsArgument(t *testing.T) {
	whole := []int{7, 1, 1, 0, -1, 8, 3}
	before := slices.Clone(whole)
	if mask, ok := impl.MaskOf(whole[:4]); !ok || mask != 131 {
		t.Errorf("MaskOf looks at other elements than those of the list: %d, %v", mask, ok)
	}
	if _, ok := impl.MaskOf(whole); ok {
		t.Error("MaskOf accepts a list with numbers that are no lanes")
	}
	if !slices.Equal(whole, before) {
		t.Errorf("MaskOf changed its argument to %v", whole)
	}
}

func TestLanesOfReturnsNewMemory(t *testing.T) {
	first := impl.LanesOf(impl.FullMask)
	second := impl.LanesOf(impl.FullMask)
	for i := range first {
		first[i] = -1
	}
	third := impl.LanesOf(impl.FullMask)
	want := []int{0, 1, 2, 3, 4, 5, 6, 7}
	if !slices.Equal(second, want) || !slices.Equal(third, want) {
		t.Errorf("a change of one result changed others to %v and %v", second, third)
	}
}
