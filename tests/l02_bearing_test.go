package tests

import (
	"math"
	"math/big"
	"testing"

	"loop.example/g03321/impl"
)

// degrees returns k modulo 360, with numbers that have no end.
func degrees(k *big.Int) int {
	return int(new(big.Int).Mod(k, big.NewInt(360)).Int64())
}

// edgeDegrees returns numbers of degrees in many circles, those at which a 360 ends, and those at
// the ends of int.
func edgeDegrees() []int {
	list := []int{math.MinInt, math.MinInt + 1, math.MinInt + 180, math.MaxInt, math.MaxInt - 1, math.MaxInt - 359, math.MaxInt / 2, math.MinInt / 2, 1 << 32, -1 << 32, 1e9, -1e9}
	for k := -1080; k <= 1080; k += 90 {
		list = append(list, k-1, k, k+1)
	}
	return list
}

// turnOf follows the rule for Turn with numbers that are rounded after each step.
func turnOf(times360 int) complex128 {
	z := complex128(1)
	for range times360 {
		a, b := real(z), imag(z)
		z = complex(minus(times(a, impl.StepReal), times(b, impl.StepImag)), plus(times(a, impl.StepImag), times(b, impl.StepReal)))
	}
	return z
}

func TestTurnFollowsItsRule(t *testing.T) {
	for k := range 360 {
		want := turnOf(k)
		for _, more := range []int{k, k - 360, k - 720, k + 360, k + 36000000} {
			if got := impl.Turn(more); !sameComplex(got, want) {
				t.Fatalf("Turn(%d): %v, want %v", more, got, want)
			}
		}
		sin, cos := math.Sincos(float64(k) * math.Pi / 180)
		if math.Abs(real(want)-cos) > 1e-13 || math.Abs(imag(want)-sin) > 1e-13 {
			t.Errorf("Turn(%d): %v", k, want)
		}
	}
	if !sameComplex(impl.Turn(0), 1) || !sameComplex(impl.Turn(360), 1) || !sameComplex(impl.Turn(1), complex(impl.StepReal, impl.StepImag)) {
		t.Error("first turns:", impl.Turn(0), impl.Turn(360), impl.Turn(1))
	}
}

func TestTurnOfAnyInt(t *testing.T) {
	for _, k := range edgeDegrees() {
		want := turnOf(degrees(big.NewInt(int64(k))))
		if got := impl.Turn(k); !sameComplex(got, want) {
			t.Errorf("Turn(%d): %v, want %v", k, got, want)
		}
	}
}

func TestBearingOfATurn(t *testing.T) {
	list := edgeDegrees()
	for k := -720; k <= 720; k++ {
		list = append(list, k)
	}
	for _, k := range list {
		if got, want := impl.Bearing(impl.Turn(k)), degrees(big.NewInt(int64(k))); got != want {
			t.Errorf("Bearing of Turn(%d): %d", k, got)
		}
	}
}

// bearingOf follows the rule for Bearing.
func bearingOf(z complex128) int {
	best := 0
	for k := range 360 {
		if impl.Dot(z, impl.Turn(k)) > impl.Dot(z, impl.Turn(best)) {
			best = k
		}
	}
	return best
}

func TestBearingFollowsItsRule(t *testing.T) {
	for _, z := range append(wildVectors(100), edgeVectors()...) {
		if z == 0 {
			continue
		}
		if got, want := impl.Bearing(z), bearingOf(z); got != want {
			t.Errorf("Bearing(%v): %d, want %d", z, got, want)
		}
	}
}

func TestBearingIsNearToTheAngle(t *testing.T) {
	cases := map[complex128]int{
		1: 0, 1i: 90, -1: 180, -2i: 270, 1 + 1i: 45, -1 + 1i: 135, -1 - 1i: 225, 1 - 1i: 315, 1e8: 0, -1e8i: 270, 1e8 + 1e8i: 45, 1e-7i: 90, -1e-9: 180,
		complex(1, negativeZero): 0, complex(negativeZero, -1): 270, 5e-324: 0,
	}
	for z, want := range cases {
		if got := impl.Bearing(z); got != want {
			t.Errorf("Bearing(%v): %d", z, got)
		}
	}
	for _, z := range wildVectors(3000) {
		got := impl.Bearing(z)
		angle := math.Atan2(imag(z), real(z)) * 180 / math.Pi
		if off := math.Mod(angle-float64(got)+900, 360) - 180; got < 0 || got > 359 || math.Abs(off) > 0.5000001 {
			t.Errorf("Bearing(%v): %d, but the angle is %v", z, got, angle)
		}
	}
}

func TestBearingOfWhatHasNone(t *testing.T) {
	zeros := []complex128{0, complex(negativeZero, 0), complex(0, negativeZero), complex(negativeZero, negativeZero)}
	for _, z := range append(brokenVectors(), zeros...) {
		if got := impl.Bearing(z); got != -1 {
			t.Errorf("Bearing(%v): %d", z, got)
		}
	}
}

func TestTwiceAVectorHasItsBearing(t *testing.T) {
	seen := 0
	for _, z := range append(wildVectors(3000), edgeVectors()...) {
		twice := complex(2*real(z), 2*imag(z))
		if impl.Length(z) == 0 || !impl.VectorOk(twice) {
			continue
		}
		seen++
		if got, want := impl.Bearing(twice), impl.Bearing(z); got != want || want < 0 {
			t.Errorf("twice %v bears %d, not %d", z, got, want)
		}
	}
	if seen < 4000 {
		t.Error("only few vectors:", seen)
	}
}

func TestUnitHasTheLengthOne(t *testing.T) {
	seen := 0
	for _, z := range append(append(wildVectors(3000), edgeVectors()...), 1e-6, 1.0000001e-6i, 8e-7-8e-7i) {
		length := impl.Length(z)
		if length == 0 {
			continue
		}
		seen++
		u, ok := impl.Unit(z)
		want := complex(over(real(z), length), over(imag(z), length))
		if tiny := math.Abs(real(want)) < 1e-290 || math.Abs(imag(want)) < 1e-290; !ok || !tiny && !sameComplex(u, want) {
			t.Errorf("Unit(%v): %v %v, want %v", z, u, ok, want)
		}
		if math.Abs(impl.Length(u)-1) > 1e-6 || math.Abs(math.Hypot(real(u), imag(u))-1) > 1e-6 {
			t.Errorf("Unit(%v): the length is %v", z, impl.Length(u))
		}
	}
	if seen < 5000 {
		t.Error("only few vectors:", seen)
	}
	if u, ok := impl.Unit(3 + 4i); !ok || u != complex(0.6, 0.8) {
		t.Error("Unit(3+4i):", u, ok)
	}
	if u, ok := impl.Unit(complex(-2, negativeZero)); !ok || !sameComplex(u, complex(-1, negativeZero)) {
		t.Error("Unit(-2-0i):", u, ok)
	}
}

func TestUnitOfWhatHasNoLength(t *testing.T) {
	short := []complex128{0, complex(negativeZero, negativeZero), 5e-324i, 1e-300, 9e-7, -9e-7i, 7e-7 + 7e-7i}
	for _, z := range append(brokenVectors(), short...) {
		if u, ok := impl.Unit(z); ok || !sameComplex(u, 0) {
			t.Errorf("Unit(%v): %v %v", z, u, ok)
		}
	}
}

// sides tells (b - a) and (a - b) modulo 360.
func sides(a, b int) (int, int) {
	x, y := big.NewInt(int64(a)), big.NewInt(int64(b))
	return degrees(new(big.Int).Sub(y, x)), degrees(new(big.Int).Sub(x, y))
}

func TestBetweenAndAside(t *testing.T) {
	list := edgeDegrees()
	for k := -720; k <= 720; k += 7 {
		list = append(list, k)
	}
	for _, a := range list {
		for _, b := range list {
			right, left := sides(a, b)
			between, aside := min(right, left), right
			if right > 180 {
				aside = right - 360
			}
			if got := impl.Between(a, b); got != between {
				t.Fatalf("Between(%d, %d): %d, want %d", a, b, got, between)
			}
			if got := impl.Aside(a, b); got != aside {
				t.Fatalf("Aside(%d, %d): %d, want %d", a, b, got, aside)
			}
		}
	}
}

func TestBetweenIsTheAmountOfAside(t *testing.T) {
	for a := -720; a <= 720; a += 5 {
		for b := -720; b <= 720; b++ {
			between, aside := impl.Between(a, b), impl.Aside(a, b)
			if between != max(aside, -aside) || aside <= -180 || aside > 180 {
				t.Fatalf("between %d and %d: %d, aside: %d", a, b, between, aside)
			}
		}
	}
	for _, a := range edgeDegrees() {
		for _, b := range edgeDegrees() {
			if between, aside := impl.Between(a, b), impl.Aside(a, b); between != max(aside, -aside) {
				t.Errorf("between %d and %d: %d, aside: %d", a, b, between, aside)
			}
		}
	}
}

func TestAsideOfOpposites(t *testing.T) {
	cases := [][3]int{{0, 180, 180}, {180, 0, 180}, {0, 181, -179}, {0, 179, 179}, {10, 350, -20}, {350, 10, 20}, {0, -180, 180}, {90, 270, 180}, {0, 360, 0}, {-1, 0, 1}, {0, -1, -1}}
	for _, c := range cases {
		if got := impl.Aside(c[0], c[1]); got != c[2] {
			t.Errorf("Aside(%d, %d): %d", c[0], c[1], got)
		}
	}
	if impl.Between(350, 10) != 20 || impl.Between(10, 350) != 20 || impl.Between(0, 180) != 180 || impl.Between(7, 7) != 0 {
		t.Error("Between:", impl.Between(350, 10), impl.Between(10, 350), impl.Between(0, 180), impl.Between(7, 7))
	}
}
