package tests

import (
	"math"
	"slices"
	"testing"

	"loop.example/g03321/impl"
)

// shares returns shares at the edges of their range and within it.
func shares() []float32 {
	list := []float32{0, float32(negativeZero), math.SmallestNonzeroFloat32, 1e-30, 1e-3, 0.1, 0.25, 1.0 / 3, 0.5, 0.75, 0.9, prior(1), 1}
	d := dice(5)
	for range 20 {
		list = append(list, float32(d.upTo(1<<24))/(1<<24))
	}
	return list
}

// brokenShares returns shares that are not in the range 0 to 1.
func brokenShares() []float32 {
	inf := float32(math.Inf(1))
	return []float32{float32(math.NaN()), inf, -inf, next(1), -math.SmallestNonzeroFloat32, -1, 1.5, 2, math.MaxFloat32, -math.MaxFloat32}
}

// beyondLimit returns two winds of which the first one, damped with the share 1 towards the second
// one, is the least single beyond MaxSpeed.
func beyondLimit() (complex64, complex64) {
	return complex(-50-6.0/(1<<18), 1), complex(impl.MaxSpeed, 1)
}

// dampOf follows the rule for Damp with singles that are rounded after each step.
func dampOf(last, x complex64, k float32) complex64 {
	part := func(a, b float32) float32 { return plus32(a, times32(minus32(b, a), k)) }
	return complex(part(real(last), real(x)), part(imag(last), imag(x)))
}

func TestDampWithTheShareOneIsTheNewWind(t *testing.T) {
	for m := -100; m <= 100; m++ {
		for n := -100; n <= 100; n++ {
			last, x := complex(eighth(m), eighth(n)), complex(eighth(n), eighth(-m))
			if got, ok := impl.Damp(last, x, 1); !ok || got != x {
				t.Fatalf("Damp(%v, %v, 1): %v %v", last, x, got, ok)
			}
		}
	}
}

func TestDampWithTheShareZeroOrTowardItself(t *testing.T) {
	list := append(append(wildWinds(500), edgeWinds()...), eighthWinds(500)...)
	for i, last := range list {
		x := list[(i*17+3)%len(list)]
		for _, k := range []float32{0, float32(negativeZero)} {
			if got, ok := impl.Damp(last, x, k); !ok || got != last {
				t.Fatalf("Damp(%v, %v, %v): %v %v", last, x, k, got, ok)
			}
		}
		for _, k := range shares() {
			if got, ok := impl.Damp(last, last, k); !ok || got != last {
				t.Fatalf("Damp(%v, itself, %v): %v %v", last, k, got, ok)
			}
		}
	}
}

func TestDampFollowsItsRule(t *testing.T) {
	list := append(append(wildWinds(400), edgeWinds()...), eighthWinds(100)...)
	fused := 0
	for i, last := range list {
		x := list[(i*19+11)%len(list)]
		for _, k := range shares() {
			want := dampOf(last, x, k)
			if got, ok := impl.Damp(last, x, k); !ok || !sameWind(got, want) {
				t.Fatalf("Damp(%v, %v, %v): %v %v, want %v", last, x, k, got, ok, want)
			}
			d := minus32(real(x), real(last))
			if float32(float64(d)*float64(k)+float64(real(last))) != real(want) {
				fused++
			}
		}
	}
	if fused < 100 {
		t.Error("only few results show whether the product is rounded:", fused)
	}
}

func TestDampOfSmallNumbers(t *testing.T) {
	z := float32(negativeZero)
	cases := []struct {
		last, x complex64
		k       float32
		want    complex64
	}{
		{0, 8, 0.25, 2}, {8, 0, 0.25, 6}, {1 + 2i, 3 - 2i, 0.5, 2}, {4i, 4i, 0.3, 4i},
		{complex(z, z), complex(z, z), 0.5, complex(0, 0)},
		{complex(z, z), complex(0, z), 1, complex(0, 0)},
		{complex(z, 0), complex(-math.SmallestNonzeroFloat32, 1), 0.25, complex(z, 0.25)},
	}
	for _, c := range cases {
		if got, ok := impl.Damp(c.last, c.x, c.k); !ok || !sameWind(got, c.want) {
			t.Errorf("Damp(%v, %v, %v): %v %v, want %v", c.last, c.x, c.k, got, ok, c.want)
		}
	}
}

func TestDampOfWhatIsNotValid(t *testing.T) {
	for _, bad := range brokenWinds() {
		for _, pair := range [][2]complex64{{bad, 1}, {1, bad}, {bad, bad}, {0, bad}} {
			for _, k := range []float32{0, 0.5, 1} {
				if got, ok := impl.Damp(pair[0], pair[1], k); ok || !sameWind(got, 0) {
					t.Errorf("Damp of %v by %v: %v %v", pair, k, got, ok)
				}
			}
		}
	}
	for _, k := range brokenShares() {
		if got, ok := impl.Damp(1+1i, 2+2i, k); ok || !sameWind(got, 0) {
			t.Errorf("share %v: %v %v", k, got, ok)
		}
		for _, list := range [][]complex64{{1}, {1, 2}, {}, nil, alike(3, impl.MaxWinds)} {
			if got := impl.RunDamp(list, k); len(got) != 0 {
				t.Errorf("share %v: %v", k, got)
			}
		}
	}
}

func TestRunDampFollowsItsRule(t *testing.T) {
	winds := append(append(eighthWinds(100), wildWinds(300)...), edgeWinds()...)
	for n := range impl.MaxWinds + 1 {
		for i, k := range shares() {
			var list, want []complex64
			for j := range n {
				list = append(list, winds[(i*31+j*7+n)%len(winds)])
				if j == 0 {
					want = append(want, list[0])
				} else {
					want = append(want, dampOf(want[j-1], list[j], k))
				}
			}
			given := slices.Clone(list)
			got := impl.RunDamp(list, k)
			if !slices.EqualFunc(got, want, sameWind) || !slices.EqualFunc(list, given, sameWind) {
				t.Fatalf("RunDamp(%v, %v): %v, want %v", given, k, got, want)
			}
		}
	}
}

func TestRunDampReturnsNewMemory(t *testing.T) {
	list := make([]complex64, 1, 8)
	list[0] = 5
	for _, n := range []int{1, 2, 3} {
		got := impl.RunDamp(list[:n], 0.5)
		got[0] = 77
		_ = append(got, 78, 79)
		if spare := list[:4]; list[0] != 5 || spare[1] != 0 || spare[2] != 0 || spare[3] != 0 {
			t.Fatalf("the list of %d is now %v", n, spare)
		}
	}
}

func TestRunDampBeyondTheLimit(t *testing.T) {
	last, x := beyondLimit()
	beyond := complex(next(impl.MaxSpeed), 1)
	if got, ok := impl.Damp(last, x, 1); !ok || got != beyond || impl.VelocityOk(got) {
		t.Error("Damp:", got, ok)
	}
	// The last element may be beyond the limit; one before it may not.
	for n := range 5 {
		list := append(alike(1, n), last, x)
		if got := impl.RunDamp(list, 1); len(got) != n+2 || got[n] != last || got[n+1] != beyond {
			t.Errorf("with %d before it: %v", n, got)
		}
		for more := 1; more < 4; more++ {
			if got := impl.RunDamp(append(slices.Clone(list), alike(1, more)...), 1); len(got) != 0 {
				t.Errorf("with %d before it and %d behind it: %v", n, more, got)
			}
		}
	}
	list := append(alike(0, impl.MaxWinds-2), -last, -x)
	if got := impl.RunDamp(list, 1); len(got) != impl.MaxWinds || got[impl.MaxWinds-1] != -beyond {
		t.Error("at the end of the longest list:", got)
	}
}

func TestListsThatAreNotValid(t *testing.T) {
	for _, list := range append(brokenLists(), nil, []complex64{}) {
		if got := impl.RunDamp(list, 0.5); len(got) != 0 {
			t.Errorf("RunDamp(%v): %v", list, got)
		}
		if got, ok := impl.MeanWind(list); ok || !sameWind(got, 0) {
			t.Errorf("MeanWind(%v): %v %v", list, got, ok)
		}
		for _, most := range []float32{0, 1000, float32(math.Inf(1)), float32(math.NaN())} {
			if impl.Steady(list, most) {
				t.Errorf("Steady(%v, %v)", list, most)
			}
		}
	}
}

// meanOf follows the rule for MeanWind with numbers that are rounded after each step.
func meanOf(list []complex64) complex64 {
	var a, b float64
	for _, w := range list {
		a, b = plus(a, float64(real(w))), plus(b, float64(imag(w)))
	}
	n := float64(len(list))
	return complex(float32(over(a, n)), float32(over(b, n)))
}

func TestMeanWindFollowsItsRule(t *testing.T) {
	winds := append(append(eighthWinds(100), wildWinds(1000)...), edgeWinds()...)
	d := dice(6)
	for n := 1; n <= impl.MaxWinds; n++ {
		for range 20 {
			var list []complex64
			for range n {
				list = append(list, winds[d.upTo(len(winds))])
			}
			want := meanOf(list)
			if got, ok := impl.MeanWind(list); !ok || !sameWind(got, want) {
				t.Fatalf("MeanWind(%v): %v %v, want %v", list, got, ok, want)
			}
		}
	}
}

func TestMeanOfSomeWinds(t *testing.T) {
	z := float32(negativeZero)
	cases := []struct {
		list []complex64
		want complex64
	}{
		{[]complex64{2, 4}, 3}, {[]complex64{1 + 2i, 3 - 2i, 2 + 3i}, 2 + 1i}, {[]complex64{-7i}, -7i},
		{[]complex64{complex(z, z)}, 0}, {[]complex64{complex(z, z), complex(z, z)}, 0},
		{alike(100-100i, impl.MaxWinds), 100 - 100i},
		{[]complex64{100, 1e-6, -100}, complex(float32((float64(100)+float64(float32(1e-6))-100)/3), 0)},
		{[]complex64{1, 0, 0}, complex(float32(1)/3, 0)},
	}
	for _, c := range cases {
		if got, ok := impl.MeanWind(c.list); !ok || !sameWind(got, c.want) {
			t.Errorf("MeanWind(%v): %v %v, want %v", c.list, got, ok, c.want)
		}
	}
}

func TestMeanOfFourWindsThatAreAlike(t *testing.T) {
	for _, w := range append(append(eighthWinds(2000), wildWinds(2000)...), edgeWinds()...) {
		if got, ok := impl.MeanWind(alike(w, 4)); !ok || got != w {
			t.Errorf("mean of four times %v: %v %v", w, got, ok)
		}
	}
}

func TestSteadyComparesTheSpread(t *testing.T) {
	winds := append(append(eighthWinds(50), wildWinds(300)...), edgeWinds()...)
	d := dice(7)
	for n := 1; n <= impl.MaxWinds; n++ {
		list := []complex64{winds[d.upTo(len(winds))]}
		low, high := list[0], list[0]
		for len(list) < n {
			w := winds[d.upTo(len(winds))]
			list = append(list, w)
			low = complex(min(real(low), real(w)), min(imag(low), imag(w)))
			high = complex(max(real(high), real(w)), max(imag(high), imag(w)))
		}
		spread := max(minus32(real(high), real(low)), minus32(imag(high), imag(low)))
		if !impl.Steady(list, spread) || !impl.Steady(list, next(spread)) || impl.Steady(list, prior(spread)) {
			t.Fatalf("%v has the spread %v", list, spread)
		}
	}
}

func TestSteadyAtItsEdges(t *testing.T) {
	inf, nan := float32(math.Inf(1)), float32(math.NaN())
	cases := []struct {
		list []complex64
		most float32
		want bool
	}{
		{[]complex64{1, 2}, 1, true}, {[]complex64{1, 2}, prior(1), false}, {[]complex64{2, 1}, 1, true}, {[]complex64{2, 1}, 0.5, false},
		{[]complex64{1i, 2i}, 1, true}, {[]complex64{1i, 2i}, 0.5, false}, {[]complex64{2i, 1i}, 0.5, false},
		{[]complex64{3 + 1i, 5 + 1i, 4 + 9i}, 8, true}, {[]complex64{3 + 1i, 5 + 1i, 4 + 9i}, 7, false}, {[]complex64{1 + 3i, 1 + 5i, 9 + 4i}, 7, false},
		{[]complex64{7}, 0, true}, {[]complex64{7}, float32(negativeZero), true}, {[]complex64{7}, -1, false}, {[]complex64{7}, -math.SmallestNonzeroFloat32, false},
		{calms(), 0, true}, {[]complex64{7}, nan, false}, {[]complex64{7}, inf, true}, {[]complex64{7}, -inf, false},
		{[]complex64{-100, 100}, 200, true}, {[]complex64{-100, 100}, prior(200), false},
		// 100.000001 is rounded to 100.
		{[]complex64{-1e-6, 100}, 100, true}, {[]complex64{-1e-6i, 100i}, 100, true}, {[]complex64{-5e-6, 100}, 100, false},
		{alike(1+1i, impl.MaxWinds), 0, true},
	}
	for _, c := range cases {
		if got := impl.Steady(c.list, c.most); got != c.want {
			t.Errorf("Steady(%v, %v): %v", c.list, c.most, got)
		}
	}
}
