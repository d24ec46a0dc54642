package impl

import (
	"strconv"
	"strings"
)

const (
	MaxInputLen      = 20000
	MaxUint          = 1000000000
	MaxLineLen       = 600
	MaxFieldsPerLine = 24
)

const hexDigits = "0123456789abcdef"

func EncodeHex(s string) (string, bool) {
	if len(s) > MaxInputLen {
		return "", false
	}
	code := make([]byte, 0, 2*len(s))
	for i := 0; i < len(s); i++ {
		code = append(code, hexDigits[s[i]>>4], hexDigits[s[i]&15])
	}
	return string(code), true
}

func DecodeHex(s string) (string, bool) {
	if len(s)%2 != 0 || len(s) > 2*MaxInputLen {
		return "", false
	}
	text := make([]byte, 0, len(s)/2)
	for i := 0; i < len(s); i += 2 {
		high := strings.IndexByte(hexDigits, s[i])
		low := strings.IndexByte(hexDigits, s[i+1])
		if high < 0 || low < 0 {
			return "", false
		}
		text = append(text, byte(high<<4|low))
	}
	return string(text), true
}

func FormatInt(n int) string { return strconv.Itoa(n) }

func ParseUint(s string) (int, bool) {
	n, err := strconv.Atoi(s)
	// Atoi also accepts signs and leading zeros, which FormatInt never writes.
	if err != nil || n < 0 || n > MaxUint || FormatInt(n) != s {
		return 0, false
	}
	return n, true
}

func SplitFields(line string) ([]string, bool) {
	if len(line) > MaxLineLen || !isPlainLine(line) {
		return nil, false
	}
	// In a plain line the space is the only white space that Fields can find.
	fields := strings.Fields(line)
	if len(fields) > MaxFieldsPerLine {
		return nil, false
	}
	return fields, true
}

// isPlainLine reports whether every byte of the line is in the range 32 to 126.
func isPlainLine(line string) bool {
	plain := true
scan:
	for i := 0; i < len(line); i++ {
		switch c := line[i]; {
		case c < 32, c > 126:
			plain = false
			break scan
		}
	}
	return plain
}

func Clamp(n int, low int, high int) int {
	// The low end is checked last, so that it wins where high is less than low.
	return max(min(n, high), low)
}
