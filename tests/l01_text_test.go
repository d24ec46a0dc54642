package tests

import (
	"math"
	"slices"
	"strconv"
	"strings"
	"testing"

	"loop.example/g03305/impl"
)

func allBytes() string {
	b := make([]byte, 256)
	for i := range b {
		b[i] = byte(i)
	}
	return string(b)
}

func checkDecodes(t *testing.T, s string, want string) {
	t.Helper()
	if got, ok := impl.DecodeHex(s); !ok || got != want {
		t.Errorf("DecodeHex(%.40q) = %.40q, %v, want %.40q, true", s, got, ok, want)
	}
}

func checkNoHex(t *testing.T, s string) {
	t.Helper()
	if got, ok := impl.DecodeHex(s); ok || got != "" {
		t.Errorf("DecodeHex(%.40q) = %.40q, %v, want \"\", false", s, got, ok)
	}
}

func TestTextLimits(t *testing.T) {
	if impl.MaxInputLen != 20000 || impl.MaxUint != 1000000000 || impl.MaxLineLen != 600 || impl.MaxFieldsPerLine != 24 {
		t.Error("a limit of chapter 1 differs from the document")
	}
}

func TestEncodeHexWritesTwoDigitsPerByte(t *testing.T) {
	for _, c := range [][2]string{{"", ""}, {"az", "617a"}, {"\x00", "00"}, {"\x0f\xf0", "0ff0"}, {"\xab\xcd\xef", "abcdef"}, {"é", "c3a9"}} {
		if got, ok := impl.EncodeHex(c[0]); !ok || got != c[1] {
			t.Errorf("EncodeHex(%q) = %q, %v, want %q, true", c[0], got, ok, c[1])
		}
	}
}

func TestHexOfEveryByteIsDecoded(t *testing.T) {
	for i := range 256 {
		s := string([]byte{byte(i)})
		want := strconv.FormatInt(int64(i), 16)
		if i < 16 {
			want = "0" + want
		}
		if got, ok := impl.EncodeHex(s); !ok || got != want {
			t.Errorf("EncodeHex(%q) = %q, %v, want %q, true", s, got, ok, want)
		}
		checkDecodes(t, want, s)
	}
	s := allBytes()
	code, ok := impl.EncodeHex(s)
	if !ok || len(code) != 512 {
		t.Fatalf("EncodeHex of all bytes has length %d, %v", len(code), ok)
	}
	checkDecodes(t, code, s)
}

func TestEncodeHexAtItsLimit(t *testing.T) {
	s := strings.Repeat("\xa5", impl.MaxInputLen)
	code, ok := impl.EncodeHex(s)
	if !ok || code != strings.Repeat("a5", impl.MaxInputLen) {
		t.Errorf("EncodeHex of MaxInputLen bytes has length %d, %v", len(code), ok)
	}
	checkDecodes(t, code, s)
	if code, ok := impl.EncodeHex(s + "a"); ok || code != "" {
		t.Errorf("EncodeHex of MaxInputLen + 1 bytes has length %d, %v", len(code), ok)
	}
}

func TestDecodeHexAtItsLimit(t *testing.T) {
	code := strings.Repeat("4b", impl.MaxInputLen)
	checkDecodes(t, code, strings.Repeat("K", impl.MaxInputLen))
	checkNoHex(t, code+"4")
	checkNoHex(t, code+"4b")
}

func TestDecodeHexRejectsOtherTexts(t *testing.T) {
	checkDecodes(t, "", "")
	for _, s := range []string{"0", "617", "6 7a", " 617a", "617a ", "0x61", "é", "61zz"} {
		checkNoHex(t, s)
	}
	for i := range 256 {
		c := string([]byte{byte(i)})
		if strings.Contains("0123456789abcdef", c) {
			checkDecodes(t, "0"+c+"41", string([]byte{byte(strings.Index("0123456789abcdef", c)), 'A'}))
			continue
		}
		checkNoHex(t, c+"0")
		checkNoHex(t, "0"+c)
		checkNoHex(t, "41"+c+"f")
	}
}

func TestFormatIntIsDefinedForEveryInt(t *testing.T) {
	for n, want := range map[int]string{
		0: "0", 1: "1", -1: "-1", 9: "9", 10: "10", -10: "-10", 100: "100", -5: "-5",
		impl.MaxUint: "1000000000", impl.MaxUint + 1: "1000000001",
		math.MaxInt: "9223372036854775807", math.MinInt: "-9223372036854775808", math.MinInt + 1: "-9223372036854775807",
	} {
		if got := impl.FormatInt(n); got != want {
			t.Errorf("FormatInt(%d) = %q, want %q", n, got, want)
		}
	}
}

func TestParseUintReadsWhatFormatIntWrites(t *testing.T) {
	for _, n := range []int{0, 1, 9, 10, 99, 100, 1001, 123456789, impl.MaxUint - 1, impl.MaxUint} {
		if got, ok := impl.ParseUint(impl.FormatInt(n)); !ok || got != n {
			t.Errorf("ParseUint(%q) = %d, %v", impl.FormatInt(n), got, ok)
		}
	}
	for n := range 2000 {
		if got, ok := impl.ParseUint(strconv.Itoa(n)); !ok || got != n {
			t.Errorf("ParseUint(%d) = %d, %v", n, got, ok)
		}
	}
	if got, ok := impl.ParseUint("1000000000"); !ok || got != impl.MaxUint {
		t.Errorf("ParseUint of MaxUint = %d, %v", got, ok)
	}
}

func TestParseUintRejectsOtherTexts(t *testing.T) {
	for _, s := range []string{
		"", "00", "01", "007", "01000000000", "0000000000000000000000001", "-", "+", "-0", "+0", "-1", "+1",
		"1000000001", "9999999999", "9223372036854775807", "9223372036854775808", "18446744073709551616", "18446744073709551617",
		"-9223372036854775808", "99999999999999999999999999", " ", " 1", "1 ", "1 2", "1\n", "\x001", "1_0", "1_000", "0x1", "0b1", "0o7",
		"1e3", "1.0", "a", "1a", "/", ":", "١", "１", strings.Repeat("1", impl.MaxInputLen),
	} {
		if got, ok := impl.ParseUint(s); ok || got != 0 {
			t.Errorf("ParseUint(%.40q) = %d, %v, want 0, false", s, got, ok)
		}
	}
}

func checkFields(t *testing.T, line string, want []string) {
	t.Helper()
	if got, ok := impl.SplitFields(line); !ok || !slices.Equal(got, want) {
		t.Errorf("SplitFields(%.40q) = %.80q, %v, want %.80q, true", line, got, ok, want)
	}
}

func checkNoFields(t *testing.T, line string) {
	t.Helper()
	if got, ok := impl.SplitFields(line); ok || got != nil {
		t.Errorf("SplitFields(%.40q) = %.80q, %v, want nil, false", line, got, ok)
	}
}

func TestSplitFieldsIgnoresSpacesAround(t *testing.T) {
	checkFields(t, "", nil)
	checkFields(t, " ", nil)
	checkFields(t, strings.Repeat(" ", 17), nil)
	checkFields(t, strings.Repeat(" ", impl.MaxLineLen), nil)
	checkFields(t, "a", []string{"a"})
	checkFields(t, " add  1 ", []string{"add", "1"})
	checkFields(t, "a b a", []string{"a", "b", "a"})
	checkFields(t, "   one,two   \"three\"\\   ", []string{"one,two", "\"three\"\\"})
}

func TestSplitFieldsAtTheLongestLine(t *testing.T) {
	long := strings.Repeat("x", impl.MaxLineLen)
	checkFields(t, long, []string{long})
	checkNoFields(t, long+"x")
	checkNoFields(t, long+" ")
	checkNoFields(t, " "+long)
	checkNoFields(t, strings.Repeat(" ", impl.MaxLineLen+1))
}

func TestSplitFieldsAtTheMostFields(t *testing.T) {
	var most []string
	for i := range impl.MaxFieldsPerLine {
		most = append(most, "f"+strconv.Itoa(i))
	}
	checkFields(t, strings.Join(most, " "), most)
	checkFields(t, "  "+strings.Join(most, "   ")+"    ", most)
	checkNoFields(t, strings.Join(most, " ")+" x")
	checkNoFields(t, "x "+strings.Join(most, "  "))
	checkNoFields(t, strings.Repeat("x ", impl.MaxLineLen/2))
}

func TestSplitFieldsAllowsOnlyBytesFrom32To126(t *testing.T) {
	for i := range 256 {
		c := string([]byte{byte(i)})
		switch {
		case i < 32 || i > 126:
			checkNoFields(t, c)
			checkNoFields(t, c+" a b")
			checkNoFields(t, "a"+c+"b")
			checkNoFields(t, "a "+c+" b")
			checkNoFields(t, "a b "+c)
			checkNoFields(t, strings.Repeat(" ", impl.MaxLineLen-1)+c)
		case i == 32:
			checkFields(t, "a"+c+"b", []string{"a", "b"})
		default:
			checkFields(t, c, []string{c})
			checkFields(t, "a"+c+"b", []string{"a" + c + "b"})
		}
	}
	checkNoFields(t, "caf\u00e9")
	checkNoFields(t, "a\u00a0b")
	checkNoFields(t, "a\u2003b")
}

func TestSplitFieldsKeepsNoStateAndSharesNoMemory(t *testing.T) {
	first, _ := impl.SplitFields("a b c")
	first[0], first[1], first[2] = "x", "y", "z"
	_ = append(first[:1], "w")
	impl.SplitFields("\x01")
	checkFields(t, "a b c", []string{"a", "b", "c"})
}

func TestClampWithinTheRange(t *testing.T) {
	for _, c := range [][4]int{
		{9, 1, 5, 5}, {0, 1, 5, 1}, {1, 1, 5, 1}, {3, 1, 5, 3}, {5, 1, 5, 5}, {6, 1, 5, 5},
		{-9, -5, -1, -5}, {9, -5, -1, -1}, {-3, -5, -1, -3}, {7, 4, 4, 4}, {1, 4, 4, 4}, {4, 4, 4, 4},
		{math.MinInt, 0, 10, 0}, {math.MaxInt, 0, 10, 10}, {math.MinInt, math.MinInt, math.MaxInt, math.MinInt},
		{math.MaxInt, math.MinInt, math.MaxInt, math.MaxInt}, {0, math.MinInt, math.MaxInt, 0},
		{0, math.MaxInt, math.MaxInt, math.MaxInt}, {0, math.MinInt, math.MinInt, math.MinInt},
	} {
		if got := impl.Clamp(c[0], c[1], c[2]); got != c[3] {
			t.Errorf("Clamp(%d, %d, %d) = %d, want %d", c[0], c[1], c[2], got, c[3])
		}
	}
	for n := -6; n <= 6; n++ {
		for low := -4; low <= 4; low++ {
			for high := low; high <= 4; high++ {
				got := impl.Clamp(n, low, high)
				if got < low || got > high || low <= n && n <= high && got != n || n < low && got != low || n > high && got != high {
					t.Errorf("Clamp(%d, %d, %d) = %d", n, low, high, got)
				}
			}
		}
	}
}

func TestClampOfAnEmptyRangeIsItsLow(t *testing.T) {
	for n := -6; n <= 6; n++ {
		for low := -3; low <= 4; low++ {
			for high := -4; high < low; high++ {
				if got := impl.Clamp(n, low, high); got != low {
					t.Errorf("Clamp(%d, %d, %d) = %d, want %d", n, low, high, got, low)
				}
			}
		}
	}
	for _, n := range []int{math.MinInt, -1, 0, 1, math.MaxInt} {
		if got := impl.Clamp(n, math.MaxInt, math.MinInt); got != math.MaxInt {
			t.Errorf("Clamp(%d, greatest, least) = %d, want the greatest int", n, got)
		}
	}
}
