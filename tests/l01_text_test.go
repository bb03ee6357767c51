package tests

import (
	"encoding/hex"
	"fmt"
	"math"
	"slices"
	"strings"
	"testing"

	"loop.example/g03321/impl"
)

// wordsOver returns all strings of at most `most` bytes over an alphabet.
func wordsOver(alphabet string, most int) []string {
	words := []string{""}
	last := words
	for range most {
		var next []string
		for _, w := range last {
			for i := range len(alphabet) {
				next = append(next, w+alphabet[i:i+1])
			}
		}
		words = append(words, next...)
		last = next
	}
	return words
}

// allBytes returns a string of n bytes in which each byte value occurs in turn.
func allBytes(n int) string {
	b := make([]byte, n)
	for i := range b {
		b[i] = byte(i * 7)
	}
	return string(b)
}

func TestLimitsOfText(t *testing.T) {
	got := []int{impl.MaxInputLen, impl.MaxUint, impl.MaxLineLen, impl.MaxFieldsPerLine, impl.MaxFixed}
	if want := []int{20000, 1000000000, 600, 24, 1000000000}; !slices.Equal(got, want) {
		t.Error("limits:", got)
	}
}

func TestEncodeHexIsLowercaseHighHalfFirst(t *testing.T) {
	for _, s := range []string{"", "az", "\x00", "\x0f\xf0\xff", "\xc3\xa9 \n", allBytes(256), allBytes(impl.MaxInputLen)} {
		got, ok := impl.EncodeHex(s)
		if want := hex.EncodeToString([]byte(s)); !ok || got != want {
			t.Errorf("EncodeHex of %d bytes %.8q: %.16q %v", len(s), s, got, ok)
		}
	}
	if got, ok := impl.EncodeHex("az"); got != "617a" || !ok {
		t.Error("EncodeHex(az):", got, ok)
	}
}

func TestEncodeHexRefusesLongStrings(t *testing.T) {
	for _, n := range []int{impl.MaxInputLen + 1, impl.MaxInputLen + 2, 2 * impl.MaxInputLen, 3 * impl.MaxInputLen} {
		if got, ok := impl.EncodeHex(allBytes(n)); got != "" || ok {
			t.Errorf("EncodeHex of %d bytes: %d bytes, %v", n, len(got), ok)
		}
	}
}

func TestDecodeHexInvertsEncodeHex(t *testing.T) {
	for _, n := range []int{0, 1, 2, 3, 255, 256, 257, impl.MaxInputLen - 1, impl.MaxInputLen} {
		s := allBytes(n)
		code, _ := impl.EncodeHex(s)
		if got, ok := impl.DecodeHex(code); !ok || got != s {
			t.Errorf("decoded from its encoding, a string of %d bytes is %d bytes, %v", n, len(got), ok)
		}
	}
}

func TestDecodeHexOnEveryPairOfBytes(t *testing.T) {
	const digits = "0123456789abcdef"
	for a := range 256 {
		for b := range 256 {
			s := string([]byte{byte(a), byte(b)})
			high, low := strings.IndexByte(digits, byte(a)), strings.IndexByte(digits, byte(b))
			want, fine := "", high >= 0 && low >= 0
			if fine {
				want = string([]byte{byte(16*high + low)})
			}
			if got, ok := impl.DecodeHex(s); got != want || ok != fine {
				t.Fatalf("DecodeHex(%q): %q %v", s, got, ok)
			}
		}
	}
}

func TestDecodeHexRefusesWhatIsNoEncoding(t *testing.T) {
	most := strings.Repeat("61", impl.MaxInputLen)
	bad := []string{"6", "617", "617A", "AB", "0x61", "61 62", " 61", "6g", "é", "616", most + "6", most + "61", most[1:], most[2:] + "6/", "G" + most[1:]}
	for _, s := range bad {
		if got, ok := impl.DecodeHex(s); got != "" || ok {
			t.Errorf("DecodeHex of %d bytes %.8q: %.8q %v", len(s), s, got, ok)
		}
	}
	for at := range 8 {
		for _, c := range "/:@`gAF \x00" {
			s := "01234567"[:at] + string(c) + "01234567"[at+1:]
			if got, ok := impl.DecodeHex(s); got != "" || ok {
				t.Errorf("DecodeHex(%q): %q %v", s, got, ok)
			}
		}
	}
}

// edgeInts returns numbers about 0, the powers of ten, the limits of chapter 1 and the ends of int.
func edgeInts() []int {
	list := []int{math.MinInt, math.MinInt + 1, math.MaxInt, math.MaxInt - 1, math.MinInt32, math.MaxInt32, math.MaxUint32, 123456789, 1234567890}
	for p := 1; p <= 1000000000000; p *= 10 {
		for d := -2; d <= 2; d++ {
			list = append(list, p+d, -p+d)
		}
	}
	return list
}

func TestFormatIntOnEveryKindOfInt(t *testing.T) {
	for _, n := range edgeInts() {
		if got, want := impl.FormatInt(n), fmt.Sprintf("%d", n); got != want {
			t.Errorf("FormatInt(%d): %q", n, got)
		}
	}
	if got := impl.FormatInt(0); got != "0" {
		t.Error("FormatInt(0):", got)
	}
	if got := impl.FormatInt(math.MinInt); got != "-9223372036854775808" {
		t.Error("FormatInt of the smallest int:", got)
	}
}

func TestParseUintInvertsFormatInt(t *testing.T) {
	numbers := edgeInts()
	for n := 0; n <= impl.MaxUint; n += 77773 {
		numbers = append(numbers, n)
	}
	for _, n := range numbers {
		want, fine := n, n >= 0 && n <= impl.MaxUint
		if !fine {
			want = 0
		}
		if got, ok := impl.ParseUint(impl.FormatInt(n)); got != want || ok != fine {
			t.Errorf("ParseUint of %d: %d %v", n, got, ok)
		}
	}
	if n, ok := impl.ParseUint("1000000000"); n != impl.MaxUint || !ok {
		t.Error("ParseUint of MaxUint:", n, ok)
	}
}

func TestParseUintOnEveryShortString(t *testing.T) {
	numbers := map[string]int{}
	for n := range 1000 {
		numbers[fmt.Sprint(n)] = n
	}
	for _, s := range wordsOver("0123456789+-. _/:xe", 3) {
		want, fine := numbers[s]
		if got, ok := impl.ParseUint(s); got != want || ok != fine {
			t.Fatalf("ParseUint(%q): %d %v", s, got, ok)
		}
	}
}

func TestParseUintRefusesWhatIsNoNumber(t *testing.T) {
	bad := []string{
		"", "01", "00", "007", "-0", "-1", "+1", "+0", " 1", "1 ", "1.0", "1e3", "0x1", "1_000", "1,000", "\x001", "1\n", "١", "１",
		"1000000001", "1000000009", "1000000010", "2000000000", "9999999999", "10000000000", "0000000001", "01000000000", "00000000001",
		"4294967296", "4294967297", "9223372036854775807", "9223372036854775808", "18446744073709551616", "18446744073709551617",
		"340282366920938463463374607431768211457", strings.Repeat("0", 1000), strings.Repeat("9", 1000), "1" + strings.Repeat("0", 64), "12345678a", "a12345678", "1234-5678",
	}
	for _, s := range bad {
		if got, ok := impl.ParseUint(s); got != 0 || ok {
			t.Errorf("ParseUint(%.40q): %d %v", s, got, ok)
		}
	}
}

func TestSplitFieldsOnOrdinaryLines(t *testing.T) {
	cases := map[string][]string{
		"":                     {},
		" ":                    {},
		"     ":                {},
		"go 60":                {"go", "60"},
		"  wind  1.000 -2.5  ": {"wind", "1.000", "-2.5"},
		"a":                    {"a"},
		" a":                   {"a"},
		"a ":                   {"a"},
		"a b  c   d":           {"a", "b", "c", "d"},
		"~ ! ~!":               {"~", "!", "~!"},
		"same same same":       {"same", "same", "same"},
		"z y x":                {"z", "y", "x"},
	}
	for line, want := range cases {
		if got, ok := impl.SplitFields(line); !ok || !slices.Equal(got, want) {
			t.Errorf("SplitFields(%q): %q %v", line, got, ok)
		}
	}
}

func TestSplitFieldsOnEveryByte(t *testing.T) {
	for b := range 256 {
		c := string([]byte{byte(b)})
		for _, line := range []string{c, "a" + c, c + "a", "a" + c + "b", "a " + c + " b", strings.Repeat(" ", impl.MaxLineLen-1) + c} {
			want, fine := []string(nil), b >= 32 && b <= 126
			if fine {
				want = strings.FieldsFunc(line, func(r rune) bool { return r == ' ' })
			}
			if got, ok := impl.SplitFields(line); ok != fine || !slices.Equal(got, want) {
				t.Fatalf("SplitFields with the byte %d: %q %v", b, got, ok)
			}
		}
	}
}

func TestSplitFieldsOnLengths(t *testing.T) {
	for _, c := range []string{"a", " "} {
		for _, n := range []int{impl.MaxLineLen - 1, impl.MaxLineLen, impl.MaxLineLen + 1, impl.MaxLineLen + 2, 10 * impl.MaxLineLen} {
			fields, ok := impl.SplitFields(strings.Repeat(c, n))
			if fine := n <= impl.MaxLineLen; ok != fine || !fine && len(fields) != 0 {
				t.Errorf("a line of %d times %q: %d fields, %v", n, c, len(fields), ok)
			}
		}
	}
}

func TestSplitFieldsOnNumbersOfFields(t *testing.T) {
	for n := 0; n <= 2*impl.MaxFieldsPerLine; n++ {
		line := strings.Repeat("ab  ", n)
		fields, ok := impl.SplitFields(line)
		fine := n <= impl.MaxFieldsPerLine
		if ok != fine || fine && len(fields) != n || !fine && len(fields) != 0 {
			t.Errorf("%d fields: %q %v", n, fields, ok)
		}
	}
	if fields, ok := impl.SplitFields(strings.Repeat("x ", impl.MaxLineLen/2)); ok || len(fields) != 0 {
		t.Error("a full line of fields:", len(fields), ok)
	}
}

func TestJoinedFieldsHaveTheSameFields(t *testing.T) {
	lines := append(wordsOver("ab ~", 6), strings.Repeat("f ", impl.MaxFieldsPerLine), strings.Repeat("long", 150), " "+strings.Repeat("six fields are  in this ", 4))
	for _, line := range lines {
		fields, ok := impl.SplitFields(line)
		if !ok {
			t.Fatalf("SplitFields(%q) is false", line)
		}
		if again, fine := impl.SplitFields(strings.Join(fields, " ")); !fine || !slices.Equal(again, fields) {
			t.Fatalf("joined, the fields %q are %q %v", fields, again, fine)
		}
	}
}

func TestSplitFieldsReturnsNewMemory(t *testing.T) {
	first, _ := impl.SplitFields("go 60")
	second, _ := impl.SplitFields("go 60")
	first[0] = "steer"
	_ = append(first[:1], "90")
	if third, _ := impl.SplitFields("go 60"); !slices.Equal(second, []string{"go", "60"}) || !slices.Equal(third, second) {
		t.Error("results share memory:", second, third)
	}
}

func TestClampOnSmallNumbers(t *testing.T) {
	for low := -4; low <= 4; low++ {
		for high := -4; high <= 4; high++ {
			for n := -6; n <= 6; n++ {
				want := n
				if n > high {
					want = high
				}
				if n < low || high < low {
					want = low
				}
				if got := impl.Clamp(n, low, high); got != want {
					t.Fatalf("Clamp(%d, %d, %d): %d", n, low, high, got)
				}
			}
		}
	}
}

func TestClampIsIdempotent(t *testing.T) {
	numbers := []int{math.MinInt, math.MinInt + 1, -1000, -1, 0, 1, 1000, math.MaxInt - 1, math.MaxInt}
	for _, low := range numbers {
		for _, high := range numbers {
			for _, n := range numbers {
				once := impl.Clamp(n, low, high)
				if impl.Clamp(once, low, high) != once {
					t.Errorf("Clamp(%d, %d, %d) is not idempotent", n, low, high)
				}
				if high < low && once != low || high >= low && (once < low || once > high) || low <= n && n <= high && once != n {
					t.Errorf("Clamp(%d, %d, %d): %d", n, low, high, once)
				}
			}
		}
	}
}
