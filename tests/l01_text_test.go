package tests

import (
	"encoding/hex"
	"math"
	"slices"
	"strconv"
	"strings"
	"testing"

	"loop.example/g00985/impl"
)

// allBytes returns a string of n bytes that contains every byte value in turn.
func allBytes(n int) string {
	b := make([]byte, n)
	for i := range b {
		b[i] = byte(i)
	}
	return string(b)
}

func TestTextLimits(t *testing.T) {
	if impl.MaxInputLen != 20000 || impl.MaxUint != 1000000000 || impl.MaxLineLen != 600 || impl.MaxFieldsPerLine != 24 {
		t.Error("a limit differs from the document")
	}
}

// Promise 1: a string can be decoded from its hexadecimal text.
func TestHexRoundTrip(t *testing.T) {
	texts := []string{"", "a", "az", "\x00", "\xff", "\n\r\t", "é", allBytes(256), allBytes(impl.MaxInputLen)}
	for b := range 256 {
		texts = append(texts, string([]byte{byte(b)}))
	}
	for _, s := range texts {
		encoded, ok := impl.EncodeHex(s)
		if !ok || encoded != hex.EncodeToString([]byte(s)) {
			t.Errorf("EncodeHex of %d bytes = %.20q, %v", len(s), encoded, ok)
		}
		decoded, ok := impl.DecodeHex(encoded)
		if !ok || decoded != s {
			t.Errorf("DecodeHex(%.20q) = %.20q, %v", encoded, decoded, ok)
		}
	}
}

func TestEncodeHexExamples(t *testing.T) {
	for _, c := range []struct{ in, want string }{
		{"", ""},
		{"az", "617a"},
		{"\x00\x0f\xf0\xff", "000ff0ff"},
		{"\xab\xcd\xef", "abcdef"},
	} {
		if got, ok := impl.EncodeHex(c.in); !ok || got != c.want {
			t.Errorf("EncodeHex(%q) = %q, %v", c.in, got, ok)
		}
	}
}

func TestEncodeHexLimit(t *testing.T) {
	if got, ok := impl.EncodeHex(strings.Repeat("a", impl.MaxInputLen)); !ok || got != strings.Repeat("61", impl.MaxInputLen) {
		t.Error("EncodeHex rejects MaxInputLen bytes, or encodes them wrongly")
	}
	if got, ok := impl.EncodeHex(strings.Repeat("a", impl.MaxInputLen+1)); ok || got != "" {
		t.Error("EncodeHex accepts more than MaxInputLen bytes")
	}
}

func TestDecodeHexLimit(t *testing.T) {
	if got, ok := impl.DecodeHex(strings.Repeat("7a", impl.MaxInputLen)); !ok || got != strings.Repeat("z", impl.MaxInputLen) {
		t.Error("DecodeHex rejects MaxInputLen bytes, or decodes them wrongly")
	}
	for _, s := range []string{
		strings.Repeat("7a", impl.MaxInputLen+1),
		strings.Repeat("7a", impl.MaxInputLen) + "7",
	} {
		if got, ok := impl.DecodeHex(s); ok || got != "" {
			t.Errorf("DecodeHex accepts %d digits", len(s))
		}
	}
}

func TestDecodeHexInvalid(t *testing.T) {
	for _, s := range []string{"6", "617", "6A", "A6", "FF", "6g", "g6", "6 ", " 6", "0x61", "61 7a", "61\n", "-1", "+1", "\x00\x00", "é", "61zz", "zz61"} {
		if got, ok := impl.DecodeHex(s); ok || got != "" {
			t.Errorf("DecodeHex(%q) = %q, %v", s, got, ok)
		}
	}
}

// Each byte is tried as the high and as the low half, beside a valid digit.
func TestDecodeHexEachByte(t *testing.T) {
	for b := range 256 {
		c := string([]byte{byte(b)})
		valid := strings.Contains("0123456789abcdef", c)
		for _, s := range []string{c + "0", "0" + c} {
			got, ok := impl.DecodeHex(s)
			if ok != valid || !ok && got != "" {
				t.Errorf("DecodeHex(%q) = %q, %v", s, got, ok)
			}
		}
	}
}

func TestFormatInt(t *testing.T) {
	for _, c := range []struct {
		n    int
		want string
	}{
		{0, "0"},
		{7, "7"},
		{10, "10"},
		{-1, "-1"},
		{-10, "-10"},
		{1000000000, "1000000000"},
		{math.MaxInt, "9223372036854775807"},
		{math.MinInt, "-9223372036854775808"},
	} {
		if got := impl.FormatInt(c.n); got != c.want {
			t.Errorf("FormatInt(%d) = %q", c.n, got)
		}
	}
}

// Promise 1: a number can be decoded from its decimal text.
func TestParseUintRoundTrip(t *testing.T) {
	numbers := []int{0, 1, 9, 10, 99, 100, 101, 123456789, 999999999, impl.MaxUint - 1, impl.MaxUint}
	for n := range 2000 {
		numbers = append(numbers, n, n*499979)
	}
	for _, n := range numbers {
		if got, ok := impl.ParseUint(impl.FormatInt(n)); !ok || got != n {
			t.Errorf("ParseUint(FormatInt(%d)) = %d, %v", n, got, ok)
		}
	}
}

func TestParseUintInvalid(t *testing.T) {
	for _, s := range []string{
		"", " ", "00", "01", "0000000000", "01000000000", "-0", "+0", "-1", "+1", "-", "+", "--1",
		"1000000001", "9999999999", "10000000000",
		strconv.Itoa(math.MaxInt), "9223372036854775808", "18446744073709551616", "18446744073709551617", strings.Repeat("1", 1000),
		"-9223372036854775808",
		" 1", "1 ", "1 2", "1\n", "\t1", "1_000", "0x1", "0b1", "0o1", "1e3", "1.0", "1,000", "a", "1a", "a1", "1\x00", "\x001", "/", ":", "１", "\xff",
	} {
		if got, ok := impl.ParseUint(s); ok || got != 0 {
			t.Errorf("ParseUint(%q) = %d, %v", s, got, ok)
		}
	}
}

func checkFields(t *testing.T, line string, want []string) {
	t.Helper()
	if got, ok := impl.SplitFields(line); !ok || !slices.Equal(got, want) {
		t.Errorf("SplitFields(%q) = %q, %v", line, got, ok)
	}
}

func checkNoFields(t *testing.T, line string) {
	t.Helper()
	if got, ok := impl.SplitFields(line); ok || len(got) != 0 {
		t.Errorf("SplitFields(%q) = %q, %v", line, got, ok)
	}
}

func TestSplitFields(t *testing.T) {
	for _, c := range []struct {
		line string
		want []string
	}{
		{"", nil},
		{" ", nil},
		{"    ", nil},
		{"a", []string{"a"}},
		{" a", []string{"a"}},
		{"a ", []string{"a"}},
		{" step  1 ", []string{"step", "1"}},
		{"set 0 65535", []string{"set", "0", "65535"}},
		{"   a   bc   def   ", []string{"a", "bc", "def"}},
		{"!~ ~!", []string{"!~", "~!"}},
		{"a,b;c", []string{"a,b;c"}},
	} {
		checkFields(t, c.line, c.want)
	}
}

// Each byte is tried alone, first, in the middle and last.
func TestSplitFieldsEachByte(t *testing.T) {
	for b := range 256 {
		c := string([]byte{byte(b)})
		for _, line := range []string{c, c + "x y", "x " + c + " y", "x" + c + "y", "x y" + c} {
			switch {
			case b < 32 || b > 126:
				checkNoFields(t, line)
			case b == 32:
				checkFields(t, line, strings.Fields(line))
			default:
				checkFields(t, line, strings.Split(line, " "))
			}
		}
	}
	checkNoFields(t, "é")
	checkNoFields(t, "a\u00a0b")
}

func TestSplitFieldsLineLimit(t *testing.T) {
	word := strings.Repeat("x", impl.MaxLineLen)
	checkFields(t, word, []string{word})
	checkNoFields(t, word+"x")
	checkNoFields(t, word+" ")
	spaces := strings.Repeat(" ", impl.MaxLineLen)
	checkFields(t, spaces, nil)
	checkNoFields(t, spaces+" ")
}

func TestSplitFieldsFieldLimit(t *testing.T) {
	most := slices.Repeat([]string{"x"}, impl.MaxFieldsPerLine)
	more := append(slices.Clone(most), "x")
	for _, gap := range []string{" ", "   "} {
		checkFields(t, strings.Join(most, gap), most)
		checkFields(t, gap+strings.Join(most, gap)+gap, most)
		checkNoFields(t, strings.Join(more, gap))
		checkNoFields(t, gap+strings.Join(more, gap)+gap)
	}
	checkNoFields(t, strings.Repeat("x ", impl.MaxLineLen/2))
}

func TestClamp(t *testing.T) {
	for _, c := range []struct{ n, low, high, want int }{
		{9, 1, 5, 5},
		{0, 1, 5, 1},
		{3, 1, 5, 3},
		{1, 1, 5, 1},
		{5, 1, 5, 5},
		{-7, -5, -1, -5},
		{0, -5, -1, -1},
		{8, 4, 4, 4},
		{2, 4, 4, 4},
		{3, 5, 1, 5},
		{0, 5, 1, 5},
		{9, 5, 1, 5},
		{math.MinInt, math.MinInt, math.MaxInt, math.MinInt},
		{math.MaxInt, math.MinInt, math.MaxInt, math.MaxInt},
		{0, math.MaxInt, math.MinInt, math.MaxInt},
		{math.MaxInt, math.MinInt, -1, -1},
		{math.MinInt, 1, math.MaxInt, 1},
	} {
		if got := impl.Clamp(c.n, c.low, c.high); got != c.want {
			t.Errorf("Clamp(%d, %d, %d) = %d", c.n, c.low, c.high, got)
		}
	}
}

// Promise 1: clamped values are in the range, and values in the range stay.
func TestClampRange(t *testing.T) {
	for low := -3; low <= 3; low++ {
		for high := -3; high <= 3; high++ {
			for n := -5; n <= 5; n++ {
				got := impl.Clamp(n, low, high)
				if high < low && got != low {
					t.Errorf("Clamp(%d, %d, %d) = %d, not low", n, low, high, got)
				}
				if low <= high && (got < low || got > high) {
					t.Errorf("Clamp(%d, %d, %d) = %d, outside the range", n, low, high, got)
				}
				if low <= n && n <= high && got != n {
					t.Errorf("Clamp(%d, %d, %d) = %d", n, low, high, got)
				}
			}
		}
	}
}
