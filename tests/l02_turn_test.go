package tests

import (
	"math"
	"math/big"
	"testing"

	"loop.example/g03321/impl"
)

// negativeZero is the 0 whose sign is turned.
var negativeZero = math.Copysign(0, -1)

// sameFloat reports whether two floats are the same as the conventions define it.
func sameFloat(x, y float64) bool {
	return x == y && math.Signbit(x) == math.Signbit(y) || x != x && y != y
}

// sameComplex reports whether two complex numbers are the same as the conventions define it.
func sameComplex(z, w complex128) bool {
	return sameFloat(real(z), real(w)) && sameFloat(imag(z), imag(w))
}

// above and below return the neighbours of a float.
func above(x float64) float64 { return math.Nextafter(x, math.Inf(1)) }
func below(x float64) float64 { return math.Nextafter(x, math.Inf(-1)) }

// Arithmetic that rounds after each step: big floats of 53 bits know no fused products. It holds
// for numbers whose results are 0 or far from the least floats.
func exactly(x float64) *big.Float { return new(big.Float).SetPrec(53).SetFloat64(x) }

func back(x *big.Float) float64 {
	f, _ := x.Float64()
	return f
}

func times(x, y float64) float64 {
	return back(new(big.Float).SetPrec(53).Mul(exactly(x), exactly(y)))
}
func plus(x, y float64) float64 {
	return back(new(big.Float).SetPrec(53).Add(exactly(x), exactly(y)))
}
func minus(x, y float64) float64 {
	return back(new(big.Float).SetPrec(53).Sub(exactly(x), exactly(y)))
}
func over(x, y float64) float64 {
	return back(new(big.Float).SetPrec(53).Quo(exactly(x), exactly(y)))
}

// dice is a fixed sequence of numbers that look random.
type dice uint64

func (d *dice) next() uint64 {
	*d += 0x9e3779b97f4a7c15
	z := uint64(*d)
	z = (z ^ z>>30) * 0xbf58476d1ce4e5b9
	z = (z ^ z>>27) * 0x94d049bb133111eb
	return z ^ z>>31
}

// within returns a float in the range -most to most.
func (d *dice) within(most float64) float64 {
	return most * (float64(d.next()>>11)/(1<<52) - 1)
}

// upTo returns a whole number in the range 0 to n-1.
func (d *dice) upTo(n int) int { return int(d.next() % uint64(n)) }

// wildVectors returns vectors of all kinds of lengths, and between them ones whose parts differ
// much.
func wildVectors(n int) []complex128 {
	d := dice(2)
	var list []complex128
	for range n {
		size := math.Ldexp(1, d.upTo(60)-33)
		other := math.Ldexp(1, d.upTo(60)-33)
		list = append(list, complex(d.within(size), d.within(size)), complex(d.within(size), d.within(other)))
	}
	return list
}

// brokenVectors returns vectors that are not valid.
func brokenVectors() []complex128 {
	var list []complex128
	for _, bad := range []float64{math.NaN(), math.Inf(1), math.Inf(-1), above(impl.MaxPlane), below(-impl.MaxPlane), 2e8, -1e9, 1e200, math.MaxFloat64, -math.MaxFloat64} {
		for _, other := range []float64{0, negativeZero, 1, -3.5, impl.MaxPlane, bad, math.NaN()} {
			list = append(list, complex(bad, other), complex(other, bad))
		}
	}
	return list
}

// edgeVectors returns valid vectors at the edges: zeros of both signs, the least floats, and parts
// of MaxPlane.
func edgeVectors() []complex128 {
	parts := []float64{0, negativeZero, 5e-324, -5e-324, 1e-300, -1e-300, 1e-7, 1, -1, 5e7, impl.MaxPlane, -impl.MaxPlane, below(impl.MaxPlane)}
	var list []complex128
	for _, a := range parts {
		for _, b := range parts {
			list = append(list, complex(a, b))
		}
	}
	return list
}

func TestLimitsOfTurns(t *testing.T) {
	if impl.Circle != 360 || impl.StepReal != 0.9998476951563912 || impl.StepImag != 0.01745240643728351 {
		t.Error("steps:", impl.Circle, impl.StepReal, impl.StepImag)
	}
	if impl.MaxPlane != 1e8 || impl.MinSquare != 1e-12 || impl.MaxSquare != 1e17 {
		t.Error("limits:", impl.MaxPlane, impl.MinSquare, impl.MaxSquare)
	}
}

func TestVectorOkAtItsEdges(t *testing.T) {
	for _, z := range append(edgeVectors(), wildVectors(100)...) {
		if !impl.VectorOk(z) {
			t.Error("not valid:", z)
		}
	}
	for _, z := range brokenVectors() {
		if impl.VectorOk(z) {
			t.Error("valid:", z)
		}
	}
}

// rootOf follows the rule for Root with numbers that are rounded after each step.
func rootOf(x float64) float64 {
	g := x
	if x < 1 {
		g = 1
	}
	for range 60 {
		g = over(plus(g, over(x, g)), 2)
	}
	return g
}

func TestRootOfSquares(t *testing.T) {
	for n := 0; n <= 10000; n++ {
		if got := impl.Root(float64(n * n)); !sameFloat(got, float64(n)) {
			t.Errorf("Root of the square of %d: %v", n, got)
		}
	}
}

func TestRootFollowsItsRule(t *testing.T) {
	numbers := []float64{1, 2, 3, 0.25, 0.5, below(1), above(1), impl.MinSquare, above(impl.MinSquare), impl.MaxSquare, below(impl.MaxSquare)}
	d := dice(1)
	for range 3000 {
		x := (2 + d.within(1)) * math.Ldexp(1, d.upTo(95)-40)
		numbers = append(numbers, max(impl.MinSquare, min(x, impl.MaxSquare)))
	}
	for _, x := range numbers {
		got := impl.Root(x)
		if want := rootOf(x); !sameFloat(got, want) {
			t.Errorf("Root(%v): %v, want %v", x, got, want)
		}
		if math.Abs(got/math.Sqrt(x)-1) > 1e-15 {
			t.Errorf("Root(%v): %v is no root", x, got)
		}
	}
}

func TestRootOutsideOfItsRange(t *testing.T) {
	outside := []float64{
		0, negativeZero, 5e-324, 1e-300, 1e-13, below(impl.MinSquare), above(impl.MaxSquare), 1.1e17, 1e300, math.MaxFloat64, math.Inf(1),
		-impl.MinSquare, -1, -4, -impl.MaxSquare, math.Inf(-1), math.NaN(),
	}
	for _, x := range outside {
		if got := impl.Root(x); !sameFloat(got, 0) {
			t.Errorf("Root(%v): %v", x, got)
		}
	}
}

func TestLengthIsTheRootOfTheSumOfSquares(t *testing.T) {
	cases := map[complex128]float64{3 + 4i: 5, -3 - 4i: 5, 5 - 12i: 13, 1: 1, -2i: 2, 1e8: 1e8, 3e7 - 4e7i: 5e7, 0: 0, 1e-7: 0, 6e-7 + 6e-7i: 0}
	for z, want := range cases {
		if got := impl.Length(z); !sameFloat(got, want) {
			t.Errorf("Length(%v): %v", z, got)
		}
	}
	for _, z := range wildVectors(2000) {
		square := plus(times(real(z), real(z)), times(imag(z), imag(z)))
		if got, want := impl.Length(z), impl.Root(square); !sameFloat(got, want) {
			t.Errorf("Length(%v): %v, want %v", z, got, want)
		}
		if got, want := impl.Length(z), math.Hypot(real(z), imag(z)); want > 1.1e-6 && math.Abs(got/want-1) > 1e-14 {
			t.Errorf("Length(%v): %v is not about %v", z, got, want)
		}
	}
}

func TestLengthAtItsEdges(t *testing.T) {
	for _, z := range brokenVectors() {
		if got := impl.Length(z); !sameFloat(got, 0) {
			t.Errorf("Length(%v): %v", z, got)
		}
	}
	for _, z := range edgeVectors() {
		want, about := impl.Length(z), math.Hypot(real(z), imag(z))
		if about < 9e-7 && !sameFloat(want, 0) || about > 1.1e-6 && math.Abs(want/about-1) > 1e-14 {
			t.Errorf("Length(%v): %v", z, want)
		}
	}
}

func TestDotAndCrossRoundEachStep(t *testing.T) {
	list := wildVectors(1500)
	for i, z := range list {
		w := list[(i*7+3)%len(list)]
		a, b, c, d := real(z), imag(z), real(w), imag(w)
		if got, want := impl.Dot(z, w), plus(times(a, c), times(b, d)); got != want {
			t.Errorf("Dot(%v, %v): %v, want %v", z, w, got, want)
		}
		if got, want := impl.Cross(z, w), minus(times(a, d), times(b, c)); got != want {
			t.Errorf("Cross(%v, %v): %v, want %v", z, w, got, want)
		}
		if got := impl.Cross(z, z); !sameFloat(got, 0) {
			t.Errorf("Cross of %v and itself: %v", z, got)
		}
	}
}

func TestDotAndCrossOfAnyNumbers(t *testing.T) {
	if impl.Dot(1+2i, 3+4i) != 11 || impl.Cross(1+2i, 3+4i) != -2 || impl.Cross(1, 1i) != 1 || impl.Cross(1i, 1) != -1 || impl.Dot(1, 1i) != 0 {
		t.Error("of small whole numbers:", impl.Dot(1+2i, 3+4i), impl.Cross(1+2i, 3+4i), impl.Cross(1, 1i), impl.Cross(1i, 1), impl.Dot(1, 1i))
	}
	inf, nan := math.Inf(1), math.NaN()
	cases := []struct {
		z, w       complex128
		dot, cross float64
	}{
		{complex(inf, 0), 1, inf, nan},
		{complex(inf, 0), 1 + 1i, inf, inf},
		{complex(inf, 1), complex(1, -inf), nan, -inf},
		{complex(nan, 0), 1, nan, nan},
		{1, complex(nan, 0), nan, nan},
		{1e200, 1e200, inf, 0},
		{1e200, 1e200i, 0, inf},
		{1e9 + 1e9i, 1e9 - 1e9i, 0, -2e18},
		{0, 0, 0, 0},
		{complex(negativeZero, 0), complex(1, -1), negativeZero, 0},
		{complex(negativeZero, negativeZero), complex(1, -1), 0, 0},
		{complex(negativeZero, 0), 1 + 1i, 0, negativeZero},
	}
	for _, c := range cases {
		if got := impl.Dot(c.z, c.w); !sameFloat(got, c.dot) {
			t.Errorf("Dot(%v, %v): %v", c.z, c.w, got)
		}
		if got := impl.Cross(c.z, c.w); !sameFloat(got, c.cross) {
			t.Errorf("Cross(%v, %v): %v", c.z, c.w, got)
		}
	}
}

func TestCrossTellsClockwise(t *testing.T) {
	for a := range 360 {
		for _, d := range []int{1, 45, 90, 179} {
			if z := impl.Turn(a); impl.Cross(z, impl.Turn(a+d)) <= 0 || impl.Cross(z, impl.Turn(a-d)) >= 0 {
				t.Errorf("%d degrees aside of %d", d, a)
			}
		}
	}
}
