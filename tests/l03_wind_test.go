package tests

import (
	"math"
	"math/big"
	"testing"

	"loop.example/g03321/impl"
)

// sameSingle reports whether two singles are the same as the conventions define it.
func sameSingle(x, y float32) bool { return sameFloat(float64(x), float64(y)) }

// sameWind reports whether two complex singles are the same as the conventions define it.
func sameWind(v, w complex64) bool { return sameComplex(complex128(v), complex128(w)) }

// next and prior return the neighbours of a single.
func next(x float32) float32  { return math.Nextafter32(x, float32(math.Inf(1))) }
func prior(x float32) float32 { return math.Nextafter32(x, float32(math.Inf(-1))) }

// Arithmetic in singles: 400 bits hold each sum and product of two of them, which is then rounded
// once.
func whole(x float32) *big.Float { return new(big.Float).SetPrec(400).SetFloat64(float64(x)) }

func single(x *big.Float) float32 {
	f, _ := x.Float32()
	return f
}

func times32(x, y float32) float32 { return single(new(big.Float).Mul(whole(x), whole(y))) }
func plus32(x, y float32) float32  { return single(new(big.Float).Add(whole(x), whole(y))) }
func minus32(x, y float32) float32 { return single(new(big.Float).Sub(whole(x), whole(y))) }

// eighth returns n eighths.
func eighth(n int) float32 { return float32(n) / 8 }

// eighthWinds returns winds whose parts are whole numbers of eighths from -100 to 100; each such
// part is in both places.
func eighthWinds(n int) []complex64 {
	d := dice(3)
	var list []complex64
	for k := -100; k <= 100; k++ {
		list = append(list, complex(eighth(k), eighth(-k)), complex(eighth(k), 0), complex(0, eighth(k)))
	}
	for range n {
		list = append(list, complex(eighth(d.upTo(201)-100), eighth(d.upTo(201)-100)))
	}
	return list
}

// wildWinds returns valid winds of all kinds of lengths, and between them ones whose parts differ
// much.
func wildWinds(n int) []complex64 {
	d := dice(4)
	part := func(size float64) float32 { return float32(d.within(size)) }
	var list []complex64
	for range n {
		size := min(impl.MaxSpeed, math.Ldexp(1, d.upTo(30)-22))
		list = append(list, complex(part(size), part(size)), complex(part(impl.MaxSpeed), part(size)))
	}
	return list
}

// edgeWinds returns valid winds at the edges: zeros of both signs, the least singles, and parts of
// MaxSpeed.
func edgeWinds() []complex64 {
	least := math.SmallestNonzeroFloat32
	parts := []float32{0, float32(negativeZero), float32(least), float32(-least), 1e-38, -1e-38, 1e-6, 1, -1, 12.5, -50, impl.MaxSpeed, -impl.MaxSpeed, prior(impl.MaxSpeed), next(-impl.MaxSpeed)}
	var list []complex64
	for _, a := range parts {
		for _, b := range parts {
			list = append(list, complex(a, b))
		}
	}
	return list
}

// brokenWinds returns velocities that are not valid.
func brokenWinds() []complex64 {
	inf, nan := float32(math.Inf(1)), float32(math.NaN())
	var list []complex64
	for _, bad := range []float32{nan, inf, -inf, next(impl.MaxSpeed), prior(-impl.MaxSpeed), 101, -200, 1e30, math.MaxFloat32, -math.MaxFloat32} {
		for _, other := range []float32{0, float32(negativeZero), 1, -3.5, impl.MaxSpeed, -bad, nan} {
			list = append(list, complex(bad, other), complex(other, bad))
		}
	}
	return list
}

// brokenLists returns lists of winds in which one is not valid, at all kinds of places, an empty
// one left out.
func brokenLists() [][]complex64 {
	var lists [][]complex64
	for _, bad := range brokenWinds() {
		for _, n := range []int{1, 2, 5, impl.MaxWinds} {
			for _, place := range []int{0, n / 2, n - 1} {
				list := alike(2+1i, n)
				list[place] = bad
				lists = append(lists, list)
			}
		}
	}
	return append(lists, alike(1, impl.MaxWinds+1), alike(0, 1000))
}

// alike returns a list of n equal winds.
func alike(w complex64, n int) []complex64 {
	list := make([]complex64, n)
	for i := range list {
		list[i] = w
	}
	return list
}

func TestLimitsOfWinds(t *testing.T) {
	if impl.MaxSpeed != 100 || impl.MaxWinds != 100 {
		t.Error("limits:", impl.MaxSpeed, impl.MaxWinds)
	}
}

func TestVelocityOkAtItsEdges(t *testing.T) {
	for _, v := range append(append(edgeWinds(), wildWinds(200)...), eighthWinds(0)...) {
		if !impl.VelocityOk(v) {
			t.Error("not valid:", v)
		}
	}
	for _, v := range brokenWinds() {
		if impl.VelocityOk(v) {
			t.Error("valid:", v)
		}
	}
}

func TestTrueWindOfTheApparentOne(t *testing.T) {
	for m := -100; m <= 100; m++ {
		for n := -100; n <= 100; n++ {
			w, v := complex(eighth(m), eighth(n)), complex(eighth(n), eighth(-m))
			a, ok := impl.Apparent(w, v)
			back, fine := impl.TrueWind(a, v)
			if !ok || !fine || back != w || a != complex(eighth(m-n), eighth(n+m)) {
				t.Fatalf("wind %v, boat %v: apparent %v %v, true %v %v", w, v, a, ok, back, fine)
			}
		}
	}
}

func TestApparentAndTrueWindRoundEachPart(t *testing.T) {
	list := append(append(wildWinds(1500), edgeWinds()...), eighthWinds(100)...)
	rounded := 0
	for i, w := range list {
		for _, v := range []complex64{list[(i*11+5)%len(list)], w, 0} {
			a, ok := impl.Apparent(w, v)
			if want := complex(minus32(real(w), real(v)), minus32(imag(w), imag(v))); !ok || !sameWind(a, want) {
				t.Fatalf("Apparent(%v, %v): %v %v, want %v", w, v, a, ok, want)
			}
			s, fine := impl.TrueWind(w, v)
			if want := complex(plus32(real(w), real(v)), plus32(imag(w), imag(v))); !fine || !sameWind(s, want) {
				t.Fatalf("TrueWind(%v, %v): %v %v, want %v", w, v, s, fine, want)
			}
			if complex128(s) != complex128(w)+complex128(v) {
				rounded++
			}
		}
	}
	if rounded < 1000 {
		t.Error("only few sums are rounded:", rounded)
	}
}

func TestApparentAndTrueWindAtTheLimit(t *testing.T) {
	// A result may be beyond MaxSpeed; the arguments may not.
	if a, ok := impl.Apparent(100-100i, -100+100i); !ok || a != 200-200i {
		t.Error("Apparent:", a, ok)
	}
	if s, ok := impl.TrueWind(100-100i, 100-100i); !ok || s != 200-200i {
		t.Error("TrueWind:", s, ok)
	}
	for _, bad := range brokenWinds() {
		for _, pair := range [][2]complex64{{bad, 1}, {1, bad}, {bad, bad}, {0, bad}, {bad, 0}} {
			a, ok := impl.Apparent(pair[0], pair[1])
			s, fine := impl.TrueWind(pair[0], pair[1])
			if ok || fine || !sameWind(a, 0) || !sameWind(s, 0) {
				t.Errorf("of %v: %v %v, %v %v", pair, a, ok, s, fine)
			}
		}
	}
}

func TestFromOfIsTheBearingOfTheOtherWay(t *testing.T) {
	cases := map[complex64]int{
		-1: 0, -1i: 90, 1: 180, 1i: 270, -1 - 1i: 45, 1 - 1i: 135, 1 + 1i: 225, -1 + 1i: 315, -100 + 1e-6i: 0, 100i: 270,
		complex(math.SmallestNonzeroFloat32, 0): 180, complex(0, -math.SmallestNonzeroFloat32): 90,
		complex(float32(negativeZero), 5): 270, complex(-5, float32(negativeZero)): 0,
	}
	for w, want := range cases {
		if got := impl.FromOf(w); got != want {
			t.Errorf("FromOf(%v): %d", w, got)
		}
	}
	for _, w := range append(append(edgeWinds(), wildWinds(50)...), eighthWinds(50)...) {
		if w == 0 {
			continue
		}
		if got, want := impl.FromOf(w), bearingOf(complex(-float64(real(w)), -float64(imag(w)))); got != want {
			t.Errorf("FromOf(%v): %d, want %d", w, got, want)
		}
	}
}

// calms returns the winds that equal 0.
func calms() []complex64 {
	z := float32(negativeZero)
	return []complex64{0, complex(z, 0), complex(0, z), complex(z, z)}
}

func TestFromOfAndVeerOfWhatBlowsFromNowhere(t *testing.T) {
	for _, w := range append(brokenWinds(), calms()...) {
		if got := impl.FromOf(w); got != -1 {
			t.Errorf("FromOf(%v): %d", w, got)
		}
		for _, pair := range [][2]complex64{{w, 1}, {-1, w}, {w, w}} {
			if d, ok := impl.Veer(pair[0], pair[1]); ok || d != 0 {
				t.Errorf("Veer of %v: %d %v", pair, d, ok)
			}
		}
	}
}

func TestVeer(t *testing.T) {
	cases := []struct {
		a, b complex64
		want int
	}{
		{-1, -1i, 90}, {-1i, -1, -90}, {-1, -1, 0}, {-1, 1, 180}, {1, -1, 180}, {1i, -1i, 180}, {-1i, 1i, 180}, {-1, 1i, -90}, {1i, 1, -90}, {1, 1i, 90}, {-1 + 1i, -1 - 1i, 90}, {100, 0.125i, 90},
	}
	for _, c := range cases {
		if got, ok := impl.Veer(c.a, c.b); !ok || got != c.want {
			t.Errorf("Veer(%v, %v): %d %v, want %d", c.a, c.b, got, ok, c.want)
		}
	}
}

func TestWindsVeerAsMuchAsTheyBack(t *testing.T) {
	list := append(append(eighthWinds(3000), wildWinds(1000)...), edgeWinds()...)
	opposite := 0
	for i, a := range list {
		for _, b := range []complex64{list[(i*13+7)%len(list)], list[(i+1)%len(list)], -a} {
			if a == 0 || b == 0 {
				continue
			}
			there, ok := impl.Veer(a, b)
			back, fine := impl.Veer(b, a)
			if !ok || !fine || there != impl.Aside(impl.FromOf(a), impl.FromOf(b)) {
				t.Fatalf("Veer(%v, %v): %d %v, and %d %v", a, b, there, ok, back, fine)
			}
			if there == 180 {
				opposite++
			}
			if there == 180 && back != 180 || there != 180 && there != -back {
				t.Fatalf("from %v to %v: %d, and back: %d", a, b, there, back)
			}
		}
	}
	if opposite < 1000 || opposite > len(list)*2 {
		t.Error("opposite winds:", opposite)
	}
}

func TestWindSpeedIsTheLength(t *testing.T) {
	cases := map[complex64]float32{3 + 4i: 5, -3 + 4i: 5, -5 - 12i: 13, 100: 100, -100i: 100, 60 - 80i: 100, 0.5: 0.5, 1e-7: 0, 100 + 100i: 141.42136}
	for w, want := range cases {
		if got := impl.WindSpeed(w); !sameSingle(got, want) {
			t.Errorf("WindSpeed(%v): %v", w, got)
		}
	}
	for _, w := range append(append(edgeWinds(), wildWinds(2000)...), eighthWinds(500)...) {
		a, b := float64(real(w)), float64(imag(w))
		square := plus(times(a, a), times(b, b))
		want := float32(0)
		if square >= impl.MinSquare {
			want = float32(rootOf(square))
		}
		if got := impl.WindSpeed(w); !sameSingle(got, want) {
			t.Errorf("WindSpeed(%v): %v, want %v", w, got, want)
		}
	}
	for _, w := range append(brokenWinds(), calms()...) {
		if got := impl.WindSpeed(w); !sameSingle(got, 0) {
			t.Errorf("WindSpeed(%v): %v", w, got)
		}
	}
}
