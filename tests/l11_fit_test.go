package tests

import (
	"math"
	"math/big"
	"testing"

	"loop.example/g03321/impl"
)

// moreBy returns the sum of two singles, also if the first one is NaN.
func moreBy(x, by float32) float32 {
	if x != x {
		return x
	}
	return plus32(x, by)
}

// inRange reports whether a whole number is in a range that is wider at both ends.
func inRange(n, low, high, wider int) bool {
	first := new(big.Int).Sub(big.NewInt(int64(low)), big.NewInt(int64(wider)))
	last := new(big.Int).Add(big.NewInt(int64(high)), big.NewInt(int64(wider)))
	return first.Cmp(big.NewInt(int64(n))) <= 0 && last.Cmp(big.NewInt(int64(n))) >= 0
}

// fitOf follows the rule for Fits, and wideOf that for FitsWide.
func fitOf(s impl.Sail, m impl.Moment) bool {
	return s.Least <= m.Speed && m.Speed <= s.Most && inRange(m.Angle, s.From, s.To, 0)
}

func wideOf(s impl.Sail, m impl.Moment) bool {
	return moreBy(s.Least, -1) <= m.Speed && m.Speed <= moreBy(s.Most, 1) && inRange(m.Angle, s.From, s.To, 5)
}

// checkFit returns Fits and FitsWide, after a look that they follow their rules, and that what fits a
// sail of a valid list fits it in the wider sense.
func checkFit(t *testing.T, s impl.Sail, m impl.Moment) (bool, bool) {
	t.Helper()
	fits, wide := impl.Fits(s, m), impl.FitsWide(s, m)
	if fits != fitOf(s, m) || wide != wideOf(s, m) {
		t.Fatalf("%v at %v: %v, and in the wider sense %v, want %v and %v", s, m, fits, wide, fitOf(s, m), wideOf(s, m))
	}
	if fits && !wide && sailsFine([]impl.Sail{s}) {
		t.Fatalf("%v at %v fits, but not in the wider sense", s, m)
	}
	return fits, wide
}

func TestFitsOfSmallNumbers(t *testing.T) {
	inf, nan := float32(math.Inf(1)), float32(math.NaN())
	cases := []struct {
		speed      float32
		angle      int
		fits, wide bool
	}{
		{15, 60, true, true}, {10, 40, true, true}, {20, 40, true, true}, {10, 90, true, true}, {20, 90, true, true}, {next(10), 41, true, true}, {prior(20), 89, true, true},
		// In the wider sense alone: by the speed, by the angle, by both.
		{prior(10), 60, false, true}, {9.5, 60, false, true}, {9, 60, false, true}, {next(20), 60, false, true}, {21, 60, false, true}, {15, 39, false, true}, {15, 35, false, true}, {15, 91, false, true}, {15, 95, false, true}, {9, 35, false, true}, {9, 95, false, true}, {21, 35, false, true}, {21, 95, false, true},
		// Just beyond that.
		{prior(9), 60, false, false}, {next(21), 60, false, false}, {15, 34, false, false}, {15, 96, false, false}, {prior(9), 35, false, false}, {9, 34, false, false}, {next(21), 95, false, false}, {21, 96, false, false}, {8, 60, false, false}, {22, 60, false, false}, {0, 60, false, false}, {5, 60, false, false}, {25, 60, false, false},
		// Neither the amount of a number nor an angle modulo Circle counts.
		{-15, 60, false, false}, {15, -60, false, false}, {15, 420, false, false}, {15, -300, false, false}, {15, math.MinInt, false, false}, {15, math.MaxInt, false, false}, {15, 60 + 1<<32, false, false}, {nan, 60, false, false}, {inf, 60, false, false}, {-inf, 60, false, false},
	}
	for _, c := range cases {
		s := cut("jib", 10, 20, 40, 90)
		if fits, wide := checkFit(t, s, moment(c.speed, c.angle)); fits != c.fits || wide != c.wide {
			t.Errorf("%v at %v: %v and %v", c.speed, c.angle, fits, wide)
		}
		// The name of the sail does not count, be there one or not.
		for _, name := range []string{"", "none", "Ä", letters(17)} {
			s.Name = name
			if fits, wide := checkFit(t, s, moment(c.speed, c.angle)); fits != c.fits || wide != c.wide {
				t.Errorf("%q, %v at %v: %v and %v", name, c.speed, c.angle, fits, wide)
			}
		}
	}
}

// A sail that is made for all there is fits in the wider sense less than no wind, and angles that are
// none.
func TestFitsAtTheEndsOfAll(t *testing.T) {
	all := cut("all", 0, 200, 0, 180)
	cases := []struct {
		m          impl.Moment
		fits, wide bool
	}{
		{moment(0, 0), true, true}, {moment(float32(negativeZero), 0), true, true}, {moment(200, 180), true, true}, {moment(math.SmallestNonzeroFloat32, 1), true, true},
		{moment(-math.SmallestNonzeroFloat32, 90), false, true}, {moment(-1, 90), false, true}, {moment(prior(-1), 90), false, false}, {moment(next(200), 90), false, true}, {moment(201, 90), false, true}, {moment(next(201), 90), false, false},
		{moment(5, -1), false, true}, {moment(5, -5), false, true}, {moment(5, -6), false, false}, {moment(5, 181), false, true}, {moment(5, 185), false, true}, {moment(5, 186), false, false}, {moment(-1, -5), false, true}, {moment(201, 185), false, true},
	}
	for _, c := range cases {
		if fits, wide := checkFit(t, all, c.m); fits != c.fits || wide != c.wide {
			t.Errorf("at %v: %v and %v", c.m, fits, wide)
		}
	}
	// A sail of one speed that is 0, and one of one angle.
	for _, zero := range []float32{0, float32(negativeZero)} {
		for _, speed := range []float32{0, float32(negativeZero)} {
			if fits, wide := checkFit(t, cut("", zero, zero, 90, 90), moment(speed, 90)); !fits || !wide {
				t.Errorf("a sail for %v at %v: %v and %v", zero, speed, fits, wide)
			}
		}
	}
}

// speedEnds returns singles of all kinds with which the speeds of a sail may end.
func speedEnds() []float32 {
	inf, nan := float32(math.Inf(1)), float32(math.NaN())
	list := []float32{nan, -inf, inf, -math.MaxFloat32, math.MaxFloat32, -1 << 24, 1 << 24, 1<<24 - 1, 1<<24 + 2, 1 << 23, 1<<23 + 1, -1, -0.5, float32(negativeZero), 0, math.SmallestNonzeroFloat32, -math.SmallestNonzeroFloat32, 1e-38, 1e-9, next(1e-9), 1e-7, 0.1, 0.2, 0.3, 0.45, 0.5, next(0.5), 0.7, 0.9}
	for _, x := range []float32{1, 2, 3, 7, 8, 16, 31, 32, 63, 64, 100, 127, 128, 199, 200} {
		list = append(list, prior(x), x, next(x), x+0.1)
	}
	return list
}

// Speeds at both ends, and less 1 and plus 1 as singles have them, and their neighbours, also in sails
// that are not valid.
func TestFitsOfSpeedsAtTheirEnds(t *testing.T) {
	inf, nan := float32(math.Inf(1)), float32(math.NaN())
	told, ends := [2]int{}, speedEnds()
	for i, least := range ends {
		for j, most := range ends {
			s := cut("jib", least, most, 40, 90)
			for _, end := range []float32{least, most, moreBy(least, -1), moreBy(most, 1), moreBy(least, 1), moreBy(most, -1), ends[(i*7+j)%len(ends)], inf, -inf, nan} {
				for _, speed := range []float32{prior(end), end, next(end)} {
					fits, wide := checkFit(t, s, moment(speed, 40+10*(j%6)))
					checkFit(t, s, moment(speed, 33+(i+j)%66))
					if fits {
						told[0]++
					}
					if wide {
						told[1]++
					}
				}
			}
		}
	}
	if told[0] < 20000 || told[1] < told[0]+10000 {
		t.Error("only few sails fit:", told)
	}
}

// Where the sum is rounded, it is the rounded sum that counts.
func TestFitsWideOfRoundedSums(t *testing.T) {
	d, inward, outward := dice(111), [2]int{}, [2]int{}
	for range 20000 {
		least := float32(math.Abs(d.within(math.Ldexp(1, -d.upTo(12)))))
		most := max(next(least), float32(math.Abs(d.within(math.Ldexp(200, -d.upTo(9))))))
		s := cut("jib", least, most, 40, 90)
		low, high := minus32(least, 1), plus32(most, 1)
		for _, speed := range []float32{low, high, prior(high), next(low)} {
			if _, wide := checkFit(t, s, moment(speed, 60)); !wide {
				t.Fatalf("%v at %v does not fit", s, speed)
			}
		}
		for _, speed := range []float32{prior(low), next(high)} {
			if _, wide := checkFit(t, s, moment(speed, 60)); wide {
				t.Fatalf("%v at %v fits", s, speed)
			}
		}
		switch exact := float64(least) - 1; {
		case float64(low) < exact:
			outward[0]++
		case float64(prior(low)) < exact && float64(low) > exact:
			inward[0]++
		}
		switch exact := float64(most) + 1; {
		case float64(high) > exact:
			outward[1]++
		case float64(high) < exact:
			inward[1]++
		}
	}
	if min(inward[0], outward[0], inward[1], outward[1]) < 2000 {
		t.Error("only few sums are rounded:", inward, outward)
	}
}

// farInts returns whole numbers about 0, a half circle, and both ends of int.
func farInts() []int {
	list := []int{-360, 90, 360, 1 << 32, -1 << 32}
	for k := range 13 {
		list = append(list, k-6, 174+k, math.MinInt+k, math.MaxInt-k)
	}
	return list
}

// Angles at both ends, and less 5 and plus 5, and one beyond each, also where these are no ints.
func TestFitsOfAnglesAtTheirEnds(t *testing.T) {
	told, ends := [2]int{}, farInts()
	for _, from := range ends {
		for _, to := range ends {
			s := cut("jib", 10, 20, from, to)
			for _, end := range []int{from, to, 90} {
				for _, aside := range []int{-7, -6, -5, -4, -1, 0, 1, 4, 5, 6, 7} {
					// A sum that is no int comes out at the other end, which is as good an angle.
					fits, wide := checkFit(t, s, moment(15, end+aside))
					checkFit(t, s, moment(9+12*float32((aside+7)%2), end+aside))
					checkFit(t, s, moment(25, end+aside))
					if fits {
						told[0]++
					}
					if wide {
						told[1]++
					}
				}
			}
			for _, angle := range []int{math.MinInt, math.MaxInt, math.MinInt + 5, math.MaxInt - 5} {
				checkFit(t, s, moment(15, angle))
			}
		}
	}
	if told[0] < 5000 || told[1] < told[0]+5000 {
		t.Error("only few sails fit:", told)
	}
	for _, c := range []struct {
		from, to, angle int
		fits, wide      bool
	}{
		{math.MinInt, math.MaxInt, math.MinInt, true, true}, {math.MinInt, math.MaxInt, math.MaxInt, true, true}, {math.MinInt, math.MaxInt, 0, true, true}, {math.MinInt, math.MinInt, math.MinInt, true, true}, {math.MaxInt, math.MaxInt, math.MaxInt, true, true},
		{math.MinInt, 0, math.MinInt, true, true}, {math.MinInt + 4, 0, math.MinInt, false, true}, {math.MinInt + 5, 0, math.MinInt, false, true}, {math.MinInt + 6, 0, math.MinInt, false, false}, {math.MinInt, math.MinInt, math.MinInt + 5, false, true}, {math.MinInt, math.MinInt, math.MinInt + 6, false, false}, {math.MinInt, math.MinInt, math.MaxInt, false, false}, {math.MinInt, 0, math.MaxInt, false, false},
		{0, math.MaxInt, math.MaxInt, true, true}, {0, math.MaxInt - 4, math.MaxInt, false, true}, {0, math.MaxInt - 5, math.MaxInt, false, true}, {0, math.MaxInt - 6, math.MaxInt, false, false}, {math.MaxInt, math.MaxInt, math.MaxInt - 5, false, true}, {math.MaxInt, math.MaxInt, math.MaxInt - 6, false, false}, {math.MaxInt, math.MaxInt, math.MinInt, false, false}, {0, math.MaxInt, math.MinInt, false, false},
		// From beyond To: no angle fits, and in the wider sense some may.
		{100, 90, 95, false, true}, {100, 90, 94, false, false}, {100, 90, 96, false, false}, {101, 90, 95, false, false}, {92, 90, 91, false, true}, {92, 90, 87, false, true}, {92, 90, 86, false, false}, {math.MaxInt, math.MinInt, 0, false, false},
	} {
		if fits, wide := checkFit(t, cut("jib", 10, 20, c.from, c.to), moment(15, c.angle)); fits != c.fits || wide != c.wide {
			t.Errorf("from %d to %d at %d: %v and %v", c.from, c.to, c.angle, fits, wide)
		}
	}
}

// Every angle and many speeds, for the sails of valid lists.
func TestFitsOfValidSails(t *testing.T) {
	for _, list := range goodSails() {
		for _, s := range list[:min(len(list), 5)] {
			for angle := -10; angle <= 190; angle++ {
				for _, speed := range []float32{s.Least, s.Most, s.Least - 1, s.Most + 1, (s.Least + s.Most) / 2, prior(s.Least), next(s.Most), prior(s.Least - 1), next(s.Most + 1)} {
					checkFit(t, s, moment(speed, angle))
				}
			}
		}
	}
}
