package tests

import (
	"math"
	"math/big"
	"testing"

	"loop.example/g03321/impl"
)

// heightOf follows the rule for HeightAt, with numbers that have no end.
func heightOf(high, low, minutes int) int {
	over, next := []int{0, 1, 3, 6, 9, 11, 12}, []int{1, 2, 3, 3, 2, 1, 0}
	p, q, m := over[minutes/60], next[minutes/60], minutes%60
	fall := big.NewInt(int64(high - low))
	fall.Mul(fall, big.NewInt(int64(60*p+q*m)))
	// Quo cuts off toward 0.
	return high - int(fall.Quo(fall, big.NewInt(720)).Int64())
}

// heights returns heights about 0 and at the ends of their range, and some in between.
func heights() []int {
	const m = impl.MaxFixed
	return []int{0, 1, -1, 2, -2, 7, 11, 12, -13, 59, 60, 719, 720, -720, 721, 1200, 4300, -4300, 99991, 123456789, -987654321, m - 1, m, 1 - m, -m}
}

func TestHeightAtFollowsItsRule(t *testing.T) {
	for _, high := range heights() {
		for _, low := range heights() {
			for minutes := 0; minutes <= 360; minutes++ {
				want := heightOf(high, low, minutes)
				if got, ok := impl.HeightAt(high, low, minutes); !ok || got != want {
					t.Fatalf("HeightAt(%d, %d, %d): %d %v, want %d", high, low, minutes, got, ok, want)
				}
			}
		}
	}
}

// A height begins high and ends low, is never beyond both, and falls as it rises when both are
// exchanged.
func TestHeightsFallAsTheyRise(t *testing.T) {
	for _, high := range heights() {
		for _, low := range heights() {
			first, _ := impl.HeightAt(high, low, 0)
			end, _ := impl.HeightAt(high, low, 360)
			if first != high || end != low {
				t.Fatalf("from %d to %d: begins with %d, ends with %d", high, low, first, end)
			}
			last := high
			for minutes := 0; minutes <= 360; minutes++ {
				fall, ok := impl.HeightAt(high, low, minutes)
				rise, fine := impl.HeightAt(low, high, minutes)
				if !ok || !fine || fall < min(high, low) || fall > max(high, low) || fall+rise != high+low {
					t.Fatalf("from %d to %d, minute %d: %d %v, and %d %v", high, low, minutes, fall, ok, rise, fine)
				}
				if high >= low && fall > last || high <= low && fall < last {
					t.Fatalf("from %d to %d, minute %d: %d behind %d", high, low, minutes, fall, last)
				}
				last = fall
			}
		}
	}
}

func TestHeightAtOfSmallNumbers(t *testing.T) {
	cases := []struct{ high, low, minutes, want int }{
		{1200, 0, 0, 1200}, {1200, 0, 30, 1150}, {1200, 0, 60, 1100}, {1200, 0, 90, 1000}, {1200, 0, 120, 900}, {1200, 0, 180, 600}, {1200, 0, 210, 450}, {1200, 0, 240, 300}, {1200, 0, 300, 100}, {1200, 0, 360, 0},
		{720, 0, 1, 719}, {720, 0, 59, 661}, {720, 0, 60, 660}, {720, 0, 61, 658}, {720, 0, 119, 542}, {720, 0, 121, 537}, {720, 0, 239, 183}, {720, 0, 241, 178}, {720, 0, 299, 62}, {720, 0, 300, 60}, {720, 0, 301, 59}, {720, 0, 359, 1},
		{0, 1200, 90, 200}, {-600, 600, 180, 0}, {600, -600, 180, 0}, {5, 5, 100, 5}, {-5, -5, 359, -5}, {0, 0, 0, 0},
		// Quotients are cut off toward 0, from below and from above.
		{1, 0, 1, 1}, {1, 0, 180, 1}, {1, 0, 359, 1}, {1, 0, 360, 0}, {0, 1, 1, 0}, {0, 1, 180, 0}, {0, 1, 359, 0}, {0, 1, 360, 1}, {0, -1, 359, 0}, {-1, 0, 359, -1}, {-1, 0, 1, -1},
		{10, 0, 59, 10}, {10, 0, 65, 10}, {10, 0, 66, 9}, {0, 10, 65, 0}, {0, 10, 66, 1}, {-10, 0, 66, -9}, {-10, 0, 65, -10}, {-10, -20, 66, -11}, {-20, -10, 66, -19}, {-10, -20, 65, -10}, {3, -4, 180, 0}, {-4, 3, 180, -1},
		{impl.MaxFixed, -impl.MaxFixed, 0, impl.MaxFixed}, {impl.MaxFixed, -impl.MaxFixed, 180, 0}, {impl.MaxFixed, -impl.MaxFixed, 360, -impl.MaxFixed}, {-impl.MaxFixed, impl.MaxFixed, 359, impl.MaxFixed - 2777778},
		{impl.MaxFixed, -impl.MaxFixed, 1, impl.MaxFixed - 2777777}, {-impl.MaxFixed, impl.MaxFixed, 1, -impl.MaxFixed + 2777777},
	}
	for _, c := range cases {
		if got, ok := impl.HeightAt(c.high, c.low, c.minutes); !ok || got != c.want {
			t.Errorf("HeightAt(%d, %d, %d): %d %v, want %d", c.high, c.low, c.minutes, got, ok, c.want)
		}
	}
}

func TestHeightAtOfWhatIsNotValid(t *testing.T) {
	refuse := func(high, low, minutes int) {
		t.Helper()
		if got, ok := impl.HeightAt(high, low, minutes); ok || got != 0 {
			t.Errorf("HeightAt(%d, %d, %d): %d %v", high, low, minutes, got, ok)
		}
	}
	for _, bad := range beyondFixed() {
		for _, minutes := range []int{0, 1, 60, 180, 360} {
			refuse(bad, 0, minutes)
			refuse(0, bad, minutes)
			refuse(bad, bad, minutes)
			refuse(bad, impl.MaxFixed, minutes)
		}
	}
	for _, minutes := range []int{-1, -60, -360, 361, 420, 720, 1 << 32, 1<<32 + 60, -1 << 32, math.MinInt, math.MaxInt} {
		refuse(1200, 0, minutes)
		refuse(0, 0, minutes)
		refuse(-impl.MaxFixed, impl.MaxFixed, minutes)
		refuse(impl.MaxFixed+1, 0, minutes)
	}
}
