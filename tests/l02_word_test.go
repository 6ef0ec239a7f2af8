package tests

import (
	"math"
	"math/big"
	"slices"
	"testing"

	"loop.example/g00985/impl"
)

const greatestWord = impl.WordSize - 1

// edgeWords returns words at which sums, differences or products begin to wrap.
func edgeWords() []int {
	return []int{0, 1, 2, 3, 7, 255, 256, 257, 32767, 32768, 32769, 40000, 65279, 65280, 65533, 65534, greatestWord}
}

// notWords returns numbers that are no words, many of which would be valid if
// they were wrapped.
func notWords() []int {
	return []int{
		-1, -2, -3, -255, -32768, -greatestWord, -impl.WordSize, -impl.WordSize - 1, -impl.WordSize + 1,
		impl.WordSize, impl.WordSize + 1, impl.WordSize + 5, 2*impl.WordSize - 1, 2 * impl.WordSize,
		1 << 31, 1 << 32, 1<<32 + 1, 1<<48 + 7, math.MaxInt, math.MaxInt - 1, math.MinInt, math.MinInt + 1, math.MinInt + 5,
	}
}

// moduloOf returns n modulo WordSize, calculated with numbers that do not wrap.
func moduloOf(n *big.Int) int {
	return int(new(big.Int).Mod(n, big.NewInt(impl.WordSize)).Int64())
}

func TestWordSize(t *testing.T) {
	if impl.WordSize != 65536 {
		t.Errorf("WordSize = %d", impl.WordSize)
	}
}

func TestIsWord(t *testing.T) {
	for n := range impl.WordSize {
		if !impl.IsWord(n) {
			t.Fatalf("IsWord(%d) = false", n)
		}
	}
	for _, n := range notWords() {
		if impl.IsWord(n) {
			t.Errorf("IsWord(%d) = true", n)
		}
	}
}

func TestWrapWordExamples(t *testing.T) {
	for _, c := range []struct{ n, want int }{
		{0, 0},
		{1, 1},
		{greatestWord, greatestWord},
		{impl.WordSize, 0},
		{impl.WordSize + 1, 1},
		{2*impl.WordSize - 1, greatestWord},
		{2 * impl.WordSize, 0},
		{-1, greatestWord},
		{-2, 65534},
		{-greatestWord, 1},
		{-impl.WordSize, 0},
		{-impl.WordSize - 1, greatestWord},
		{-100000, 31072},
		{100000, 34464},
		{1 << 32, 0},
		{1<<32 - 1, greatestWord},
		{math.MaxInt, greatestWord},
		{math.MinInt, 0},
		{math.MinInt + 1, 1},
	} {
		if got := impl.WrapWord(c.n); got != c.want {
			t.Errorf("WrapWord(%d) = %d, not %d", c.n, got, c.want)
		}
	}
}

// WrapWord leaves words as they are and does not change if WordSize is added.
func TestWrapWordModulo(t *testing.T) {
	for n := range impl.WordSize {
		for _, turns := range []int{-1 << 47, -5, -1, 0, 1, 2, 1<<47 - 1} {
			if got := impl.WrapWord(n + turns*impl.WordSize); got != n {
				t.Fatalf("WrapWord(%d + %d*WordSize) = %d", n, turns, got)
			}
		}
	}
	for _, n := range append(edgeWords(), notWords()...) {
		if got, want := impl.WrapWord(n), moduloOf(big.NewInt(int64(n))); got != want {
			t.Errorf("WrapWord(%d) = %d, not %d", n, got, want)
		}
	}
}

func TestWordExamples(t *testing.T) {
	for _, c := range []struct{ a, b, sum, difference, product, less int }{
		{0, 0, 0, 0, 0, 0},
		{0, 1, 1, greatestWord, 0, 1},
		{1, 0, 1, 1, 0, 0},
		{1, 2, 3, greatestWord, 2, 1},
		{2, 2, 4, 0, 4, 0},
		{7, 5, 12, 2, 35, 0},
		{greatestWord, 0, greatestWord, greatestWord, 0, 0},
		{0, greatestWord, greatestWord, 1, 0, 1},
		{greatestWord, 1, 0, 65534, greatestWord, 0},
		{1, greatestWord, 0, 2, greatestWord, 1},
		{greatestWord, 2, 1, 65533, 65534, 0},
		{65534, greatestWord, 65533, greatestWord, 2, 1},
		{greatestWord, greatestWord, 65534, 0, 1, 0},
		{256, 256, 512, 0, 0, 0},
		{255, 257, 512, 65534, greatestWord, 1},
		{32767, 32768, greatestWord, greatestWord, 32768, 1},
		{32768, 32767, greatestWord, 1, 32768, 0},
		{32768, 32768, 0, 0, 0, 0},
		{40000, 50000, 24464, 55536, 37888, 1},
	} {
		sum, difference := impl.AddWords(c.a, c.b), impl.SubWords(c.a, c.b)
		product, less := impl.MulWords(c.a, c.b), impl.LessWords(c.a, c.b)
		if sum != c.sum || difference != c.difference || product != c.product || less != c.less {
			t.Errorf("%d and %d: sum %d, difference %d, product %d, less %d", c.a, c.b, sum, difference, product, less)
		}
	}
}

// Every word is paired with each edge word, on both sides.
func TestWordOperationsModulo(t *testing.T) {
	for a := range impl.WordSize {
		for _, b := range edgeWords() {
			checkOperations(t, a, b)
			checkOperations(t, b, a)
		}
		if t.Failed() {
			return
		}
	}
}

func checkOperations(t *testing.T, a int, b int) {
	t.Helper()
	if got, want := impl.AddWords(a, b), (a+b)%impl.WordSize; got != want {
		t.Errorf("AddWords(%d, %d) = %d, not %d", a, b, got, want)
	}
	if got, want := impl.SubWords(a, b), (a-b+impl.WordSize)%impl.WordSize; got != want {
		t.Errorf("SubWords(%d, %d) = %d, not %d", a, b, got, want)
	}
	if got, want := impl.MulWords(a, b), a*b%impl.WordSize; got != want {
		t.Errorf("MulWords(%d, %d) = %d, not %d", a, b, got, want)
	}
	if got := impl.LessWords(a, b); (got == 1) != (a < b) || (got == 0) != (a >= b) {
		t.Errorf("LessWords(%d, %d) = %d", a, b, got)
	}
}

// Promise 2: sums of words can be undone, and so can differences.
func TestSumsCanBeUndone(t *testing.T) {
	for a := range impl.WordSize {
		for _, b := range append(edgeWords(), a, greatestWord-a, a*40503%impl.WordSize) {
			sum := impl.AddWords(a, b)
			if !impl.IsWord(sum) || impl.SubWords(sum, b) != a || impl.SubWords(sum, a) != b {
				t.Fatalf("the sum %d of %d and %d cannot be undone", sum, a, b)
			}
			difference := impl.SubWords(a, b)
			if !impl.IsWord(difference) || impl.AddWords(difference, b) != a {
				t.Fatalf("the difference %d of %d and %d cannot be undone", difference, a, b)
			}
		}
	}
}

func TestOperationsOfNoWords(t *testing.T) {
	operations := []struct {
		name string
		call func(int, int) int
	}{
		{"AddWords", impl.AddWords},
		{"SubWords", impl.SubWords},
		{"MulWords", impl.MulWords},
		{"LessWords", impl.LessWords},
	}
	for _, operation := range operations {
		for _, bad := range notWords() {
			for _, other := range append(edgeWords(), notWords()...) {
				if got := operation.call(bad, other); got != 0 {
					t.Errorf("%s(%d, %d) = %d", operation.name, bad, other, got)
				}
				if got := operation.call(other, bad); got != 0 {
					t.Errorf("%s(%d, %d) = %d", operation.name, other, bad, got)
				}
			}
		}
	}
}

func TestAreWords(t *testing.T) {
	for _, list := range [][]int{nil, {}, {0}, {greatestWord}, {0, greatestWord}, {5, 5, 5}, edgeWords()} {
		if !impl.AreWords(list) {
			t.Errorf("AreWords(%v) = false", list)
		}
	}
	for _, bad := range notWords() {
		if impl.AreWords([]int{bad}) {
			t.Errorf("AreWords of %d alone = true", bad)
		}
		for place := range len(edgeWords()) + 1 {
			if list := slices.Insert(edgeWords(), place, bad); impl.AreWords(list) {
				t.Errorf("AreWords(%v) = true", list)
			}
		}
	}
}

func TestAreWordsLeavesItsArgument(t *testing.T) {
	whole := []int{3, -1, greatestWord, impl.WordSize, 9, -9}
	before := slices.Clone(whole)
	if impl.AreWords(whole[:4]) || !impl.AreWords(whole[:1]) {
		t.Error("AreWords looks at other elements than those of the list")
	}
	if !slices.Equal(whole, before) {
		t.Errorf("AreWords changed its argument to %v", whole)
	}
}
