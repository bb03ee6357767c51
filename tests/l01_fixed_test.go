package tests

import (
	"fmt"
	"math"
	"math/big"
	"strings"
	"testing"

	"loop.example/g03321/impl"
)

// fixedText tells n thousandths, whatever their amount.
func fixedText(n int) string {
	sign := ""
	if n < 0 {
		sign, n = "-", -n
	}
	return fmt.Sprintf("%s%d.%03d", sign, n/1000, n%1000)
}

// fixedNumbers returns numbers in the range -MaxFixed to MaxFixed: small ones, those about the
// powers of ten, those at both ends, and some in between.
func fixedNumbers() []int {
	var list []int
	for n := -12000; n <= 12000; n++ {
		list = append(list, n)
	}
	for _, n := range edgeInts() {
		if n >= -impl.MaxFixed && n <= impl.MaxFixed {
			list = append(list, n)
		}
	}
	for n := -impl.MaxFixed; n <= impl.MaxFixed; n += 33329 {
		list = append(list, n, -n)
	}
	return list
}

// beyondFixed returns numbers outside of that range, the smallest int last.
func beyondFixed() []int {
	const m = impl.MaxFixed
	return []int{m + 1, -m - 1, m + 2, -m - 2, 2 * m, -2 * m, 1000 * m, -1000 * m, 1 << 32, math.MaxInt, math.MinInt + 1, math.MinInt}
}

func TestFormatFixedHasThreeDigitsBehindThePoint(t *testing.T) {
	cases := map[int]string{
		0: "0.000", -50: "-0.050", 50: "0.050", 1: "0.001", -1: "-0.001", 999: "0.999", 1000: "1.000", -1000: "-1.000", 12345: "12.345", -98765: "-98.765",
		impl.MaxFixed: "1000000.000", -impl.MaxFixed: "-1000000.000", impl.MaxFixed - 1: "999999.999", 1 - impl.MaxFixed: "-999999.999",
	}
	for n, want := range cases {
		if got := impl.FormatFixed(n); got != want {
			t.Errorf("FormatFixed(%d): %q", n, got)
		}
	}
	for _, n := range fixedNumbers() {
		if got := impl.FormatFixed(n); got != fixedText(n) {
			t.Errorf("FormatFixed(%d): %q", n, got)
		}
	}
}

func TestFormatFixedRefusesWhatIsBeyond(t *testing.T) {
	for _, n := range beyondFixed() {
		if got := impl.FormatFixed(n); got != "" {
			t.Errorf("FormatFixed(%d): %q", n, got)
		}
	}
}

func TestParseFixedInvertsFormatFixed(t *testing.T) {
	for _, n := range fixedNumbers() {
		if got, ok := impl.ParseFixed(impl.FormatFixed(n)); got != n || !ok {
			t.Fatalf("ParseFixed of %d thousandths: %d %v", n, got, ok)
		}
	}
}

func TestParseFixedOnEveryShortString(t *testing.T) {
	numbers := map[string]int{}
	for n := -99999; n <= 999999; n++ {
		numbers[fixedText(n)] = n
	}
	for _, s := range wordsOver("019.-+ ", 7) {
		want, fine := numbers[s]
		if got, ok := impl.ParseFixed(s); got != want || ok != fine {
			t.Fatalf("ParseFixed(%q): %d %v", s, got, ok)
		}
	}
}

func TestParseFixedRefusesWhatIsNoNumber(t *testing.T) {
	bad := []string{
		"", "-", ".", "-.", "0", "-0", "5", "0.", ".5", ".500", "-.500", "0.5", "0.50", "0.5000", "0.0000", "00.000", "01.000", "-01.000", "000.000",
		"-0.000", "+0.000", "+1.000", "--1.000", "-+1.000", "1-.000", "1.-00", "1.00-", "1.+00", "1..000", "1.0.00", "1.000.", "1.000.000", "1,000", "1 .000", " 1.000",
		"1.000 ", "1. 00", "1.00a", "a.000", "1.0e3", "0x1.000", "1.00\x00", "１.000", "1.00٣", "NaN", "Inf", "1000",
		"1000000.001", "-1000000.001", "1000001.000", "-1000001.000", "1000000001.000", "9999999999.999", "10000000000.000", "01000000.000", "1000000.0000",
		"4294967.296", "4294968.296", "18446744073709551.616", "18446744073709551617.616", "18446744073709552.616", "-18446744073709552.616", "-9223372036854775.808",
		strings.Repeat("9", 1000) + ".000", "0." + strings.Repeat("0", 1000), "0.0000000001", "1.18446744073709551616", "0.1000", "0.00000001", "-0.0001",
	}
	for _, s := range bad {
		if got, ok := impl.ParseFixed(s); got != 0 || ok {
			t.Errorf("ParseFixed(%.40q): %d %v", s, got, ok)
		}
	}
	beyond := beyondFixed()
	for _, n := range beyond[:len(beyond)-1] {
		s := fixedText(n)
		if got, ok := impl.ParseFixed(s); got != 0 || ok {
			t.Errorf("ParseFixed(%q): %d %v", s, got, ok)
		}
	}
}

// nearestFixed tells what ToFixed must return for a float that is finite, by exact arithmetic:
// the product with 1000 is rounded once, and a half is added to its amount, which is cut off.
func nearestFixed(x float64) (int, bool) {
	product, _ := new(big.Rat).Mul(new(big.Rat).SetFloat64(x), big.NewRat(1000, 1)).Float64()
	if math.IsInf(product, 0) {
		return 0, false
	}
	amount := new(big.Rat).SetFloat64(math.Abs(product))
	amount.Add(amount, big.NewRat(1, 2))
	whole := new(big.Int).Quo(amount.Num(), amount.Denom())
	if whole.Cmp(big.NewInt(impl.MaxFixed)) > 0 {
		return 0, false
	}
	if product < 0 {
		whole.Neg(whole)
	}
	return int(whole.Int64()), true
}

func TestToFixedOnHalves(t *testing.T) {
	cases := map[float64]int{
		0.0625: 63, -0.0625: -63, 0.1875: 188, -0.1875: -188, 0.3125: 313, 0.0005: 1, -0.0005: -1, 2.5: 2500, -2.5: -2500, 12.0625: 12063, -12.0625: -12063,
		0.0004: 0, -0.0004: 0, 0.0015: 2, 0.0025: 3, 0.0014: 1, -0.0016: -2, 999999.9375: 999999938, -999999.9375: -999999938,
	}
	for x, want := range cases {
		if got, ok := impl.ToFixed(x); got != want || !ok {
			t.Errorf("ToFixed(%v): %d %v", x, got, ok)
		}
	}
	for k := -400000; k <= 400000; k++ {
		x := float64(k) / 16
		want, fine := nearestFixed(x)
		if got, ok := impl.ToFixed(x); got != want || ok != fine {
			t.Fatalf("ToFixed(%v): %d %v", x, got, ok)
		}
	}
}

func TestToFixedAtHalvesAndTheirNeighbours(t *testing.T) {
	for _, n := range append(fixedNumbers()[:24001:24001], impl.MaxFixed-1, -impl.MaxFixed, impl.MaxFixed, impl.MaxFixed+1) {
		for _, d := range []float64{-0.5, 0.5} {
			x := (float64(n) + d) / 1000
			for _, y := range []float64{x, math.Nextafter(x, math.Inf(1)), math.Nextafter(x, math.Inf(-1))} {
				want, fine := nearestFixed(y)
				if got, ok := impl.ToFixed(y); got != want || ok != fine {
					t.Fatalf("ToFixed(%v): %d %v, want %d %v", y, got, ok, want, fine)
				}
			}
		}
	}
}

func TestToFixedRoundsTheProductFirst(t *testing.T) {
	// Exactly, 1000 times the nearest float to 1.0005 is less than 1000.5; as a float64 it is not.
	// The same holds for 0.0045 and 4.5.
	if got, ok := impl.ToFixed(1.0005); got != 1001 || !ok {
		t.Error("ToFixed(1.0005):", got, ok)
	}
	if got, ok := impl.ToFixed(-1.0005); got != -1001 || !ok {
		t.Error("ToFixed(-1.0005):", got, ok)
	}
	if got, ok := impl.ToFixed(0.0045); got != 5 || !ok {
		t.Error("ToFixed(0.0045):", got, ok)
	}
}

func TestToFixedAtTheEnds(t *testing.T) {
	fine := map[float64]int{
		0: 0, math.Copysign(0, -1): 0, 5e-324: 0, -5e-324: 0, 1e-300: 0,
		1000000: impl.MaxFixed, -1000000: -impl.MaxFixed, 1000000.0004: impl.MaxFixed, -1000000.0004: -impl.MaxFixed,
		999999.9996: impl.MaxFixed, 999999.999: impl.MaxFixed - 1, -999999.999: 1 - impl.MaxFixed,
	}
	for x, want := range fine {
		if got, ok := impl.ToFixed(x); got != want || !ok {
			t.Errorf("ToFixed(%v): %d %v", x, got, ok)
		}
	}
	for _, x := range []float64{1000000.0005, 1000000.0006, 1000000.001, 1000001, 4294967.296, 1e9, 1e15, 9223372036854775.807, 18446744073709551.616, 1e18, 1e300, math.MaxFloat64, math.Inf(1)} {
		for _, y := range []float64{x, -x} {
			if got, ok := impl.ToFixed(y); got != 0 || ok {
				t.Errorf("ToFixed(%v): %d %v", y, got, ok)
			}
		}
	}
	if got, ok := impl.ToFixed(math.NaN()); got != 0 || ok {
		t.Error("ToFixed(NaN):", got, ok)
	}
}

func TestFromFixedIsTheQuotient(t *testing.T) {
	for _, n := range fixedNumbers() {
		want, _ := big.NewRat(int64(n), 1000).Float64()
		if got := impl.FromFixed(n); got != want || math.Signbit(got) != (n < 0) {
			t.Fatalf("FromFixed(%d): %v", n, got)
		}
	}
	for _, n := range beyondFixed() {
		if got := impl.FromFixed(n); got != 0 || math.Signbit(got) {
			t.Errorf("FromFixed(%d): %v", n, got)
		}
	}
}

func TestThousandthsAsAFloatAreTheSameNumberAgain(t *testing.T) {
	numbers := fixedNumbers()
	for n := -impl.MaxFixed; n <= impl.MaxFixed; n += 997 {
		numbers = append(numbers, n)
	}
	for _, n := range numbers {
		if got, ok := impl.ToFixed(impl.FromFixed(n)); got != n || !ok {
			t.Fatalf("ToFixed of FromFixed(%d): %d %v", n, got, ok)
		}
	}
}
