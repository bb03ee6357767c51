package impl

import (
	"math"
	"strconv"
	"strings"
)

const (
	MaxInputLen      = 20000
	MaxUint          = 1000000000
	MaxLineLen       = 600
	MaxFieldsPerLine = 24
	MaxFixed         = 1000000000
)

const (
	hexDigits = "0123456789abcdef"
	// maxDigits keeps scanned numbers far from the end of an int; MaxUint has as many digits.
	maxDigits = 10
)

// EncodeHex returns the lowercase hexadecimal encoding of s, two digits per byte with the high
// half first, and true. It returns "" and false if s is longer than MaxInputLen bytes. Example:
// EncodeHex("az") returns "617a" and true.
func EncodeHex(s string) (string, bool) {
	if len(s) > MaxInputLen {
		return "", false
	}
	code := make([]byte, 0, 2*len(s))
	for i := range len(s) {
		code = append(code, hexDigits[s[i]/16], hexDigits[s[i]%16])
	}
	return string(code), true
}

// hexValue returns the value of a lowercase hexadecimal digit, and true; 0 and false for every
// other byte.
func hexValue(c byte) (byte, bool) {
	switch {
	case '0' <= c && c <= '9':
		return c - '0', true
	case 'a' <= c && c <= 'f':
		return c - 'a' + 10, true
	}
	return 0, false
}

// DecodeHex returns the string t for which EncodeHex(t) is s, and true. It returns "" and false
// if there is no such string (an odd length, a character other than 0-9 and a-f, or a result
// longer than MaxInputLen).
func DecodeHex(s string) (string, bool) {
	if len(s)%2 != 0 || len(s) > 2*MaxInputLen {
		return "", false
	}
	text := make([]byte, 0, len(s)/2)
	for i := 0; i < len(s); i += 2 {
		high, highOk := hexValue(s[i])
		low, lowOk := hexValue(s[i+1])
		if !highOk || !lowOk {
			return "", false
		}
		text = append(text, 16*high+low)
	}
	return string(text), true
}

// FormatInt returns n in decimal without leading zeros, with a leading `-` for a negative number.
// It is defined for every int; FormatInt(0) is "0".
func FormatInt(n int) string {
	return strconv.Itoa(n)
}

// scanDigits returns the number that the digits of s tell, leading zeros included, and true. It
// returns 0 and false if s has another byte, no digit, or more than maxDigits of them.
func scanDigits(s string) (int, bool) {
	if s == "" || len(s) > maxDigits {
		return 0, false
	}
	n, fine := 0, true
scan:
	for i := range len(s) {
		switch c := s[i]; {
		case '0' <= c && c <= '9':
			n = 10*n + int(c-'0')
		default:
			n, fine = 0, false
			break scan
		}
	}
	return n, fine
}

// ParseUint returns the number n in the range 0 to MaxUint for which FormatInt(n) is s, and true.
// It returns 0 and false if there is none. Example: ParseUint("01") returns 0 and false.
func ParseUint(s string) (int, bool) {
	n, ok := scanDigits(s)
	if !ok || n > MaxUint || FormatInt(n) != s {
		return 0, false
	}
	return n, true
}

// SplitFields returns the fields of a line in order, and true. Fields are maximal runs of bytes
// other than the space (byte 32); leading and trailing spaces are ignored. SplitFields returns
// nil and false if the line is longer than MaxLineLen bytes, contains a byte outside the range 32
// to 126, or has more than MaxFieldsPerLine fields. An empty line and a line of spaces have no
// fields.
func SplitFields(line string) ([]string, bool) {
	if len(line) > MaxLineLen {
		return nil, false
	}
	for i := range len(line) {
		if line[i] < 32 || line[i] > 126 {
			return nil, false
		}
	}
	// Of the bytes that are left, the space alone separates fields for the library, too.
	fields := strings.Fields(line)
	if len(fields) > MaxFieldsPerLine {
		return nil, false
	}
	return fields, true
}

// Clamp returns n clamped to the range low to high. If high is less than low, it returns low.
func Clamp(n int, low int, high int) int {
	return max(low, min(n, high))
}

// fixedOk reports whether n is a number of thousandths that text and floats can tell.
func fixedOk(n int) bool {
	return -MaxFixed <= n && n <= MaxFixed
}

// FormatFixed returns n thousandths as a decimal with three digits behind the point: a leading
// `-` for a negative number, the amount divided by 1000, cut off, in decimal without leading
// zeros, `.`, and three digits. It returns "" if n is not in the range -MaxFixed to MaxFixed.
// Examples: FormatFixed(-50) is "-0.050", FormatFixed(0) is "0.000".
func FormatFixed(n int) string {
	if !fixedOk(n) {
		return ""
	}
	sign := ""
	if n < 0 {
		sign, n = "-", -n
	}
	// The 1 in front keeps the zeros of the part behind the point.
	part := FormatInt(1000 + n%1000)[1:]
	return sign + FormatInt(n/1000) + "." + part
}

// thousandthsOf returns the function that makes thousandths, all with one sign (1 or -1), from a
// whole amount and the three digits behind its point.
func thousandthsOf(sign int) func(whole int, part int) int {
	return func(whole int, part int) int {
		return sign * (1000*whole + part)
	}
}

// ParseFixed returns the number n for which FormatFixed(n) is s, and true; 0 and false if there
// is none ("" has none).
func ParseFixed(s string) (int, bool) {
	sign := 1
	amount, negative := strings.CutPrefix(s, "-")
	if negative {
		sign = -1
	}
	front, behind, _ := strings.Cut(amount, ".")
	whole, wholeOk := scanDigits(front)
	part, partOk := scanDigits(behind)
	n := thousandthsOf(sign)(whole, part)
	if !wholeOk || !partOk || FormatFixed(n) != s {
		return 0, false
	}
	return n, true
}

// ToFixed returns the whole number that is nearest to the product of x and 1000 (of two, the one
// with the greater amount), and true. The product is rounded to a float64 first. It returns 0 and
// false if x is not finite, or the number is not in the range -MaxFixed to MaxFixed.
func ToFixed(x float64) (int, bool) {
	nearest := math.Round(float64(x * 1000))
	// Compared as a float, since a greater one need not have a value as an int; NaN fails, too.
	if !(math.Abs(nearest) <= MaxFixed) {
		return 0, false
	}
	return int(nearest), true
}

// FromFixed returns the quotient of n and 1000; 0 if n is not in the range -MaxFixed to MaxFixed.
func FromFixed(n int) float64 {
	if !fixedOk(n) {
		return 0
	}
	return float64(n) / 1000
}
