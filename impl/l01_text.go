package impl

import (
	"strconv"
	"strings"
)

const (
	MaxInputLen      = 20000
	MaxUint          = 1000000000
	MaxLineLen       = 600
	MaxFieldsPerLine = 24
)

const hexDigits = "0123456789abcdef"

// EncodeHex returns the lowercase hexadecimal encoding of s, or false if s is
// longer than MaxInputLen.
func EncodeHex(s string) (string, bool) {
	if len(s) > MaxInputLen {
		return "", false
	}
	encoded := make([]byte, 0, 2*len(s))
	for i := range len(s) {
		encoded = append(encoded, hexDigits[s[i]>>4], hexDigits[s[i]&15])
	}
	return string(encoded), true
}

// DecodeHex returns the string whose encoding is s, or false if there is none.
func DecodeHex(s string) (string, bool) {
	if len(s)%2 != 0 || len(s) > 2*MaxInputLen {
		return "", false
	}
	decoded := make([]byte, 0, len(s)/2)
	for i := 0; i < len(s); i += 2 {
		high := strings.IndexByte(hexDigits, s[i])
		low := strings.IndexByte(hexDigits, s[i+1])
		if high < 0 || low < 0 {
			return "", false
		}
		decoded = append(decoded, byte(high<<4|low))
	}
	return string(decoded), true
}

// FormatInt returns n in decimal.
func FormatInt(n int) string {
	return strconv.Itoa(n)
}

// ParseUint returns the number from 0 to MaxUint whose decimal text is s, or
// false if there is none.
func ParseUint(s string) (int, bool) {
	n, err := strconv.Atoi(s)
	if err != nil || n < 0 || n > MaxUint {
		return 0, false
	}
	// Atoi also accepts a sign and leading zeros, which FormatInt never writes.
	if FormatInt(n) != s {
		return 0, false
	}
	return n, true
}

// SplitFields returns the fields of a line, which single or repeated spaces
// separate, or false if the line is too long, has a byte outside the range 32
// to 126, or has too many fields.
func SplitFields(line string) ([]string, bool) {
	if len(line) > MaxLineLen {
		return nil, false
	}
	var fields []string
	start, end := 0, 0
scan:
	for end < len(line) {
		switch c := line[end]; {
		case c < ' ' || c > '~':
			break scan
		case c == ' ':
			fields = appendField(fields, line[start:end])
			start = end + 1
		}
		end++
	}
	if end < len(line) {
		return nil, false
	}
	fields = appendField(fields, line[start:end])
	if len(fields) > MaxFieldsPerLine {
		return nil, false
	}
	return fields, true
}

// appendField appends a copy of text, so that a field does not keep the memory
// of its line. The empty text between two spaces is not a field.
func appendField(fields []string, text string) []string {
	if text == "" {
		return fields
	}
	return append(fields, strings.Clone(text))
}

// Clamp returns n clamped to the range low to high.
func Clamp(n int, low int, high int) int {
	// max is applied last because low counts if high is less than low.
	return max(low, min(n, high))
}
