package tests

import (
	"math"
	"math/big"
	"slices"
	"testing"

	"loop.example/g03321/impl"
)

// Arithmetic that rounds once, to the least floats, too: 2400 bits hold each sum and product of the
// floats that are met here, and no quotient of them comes so near to the middle between two floats.
func broad(x float64) *big.Float { return new(big.Float).SetPrec(2400).SetFloat64(x) }

func timesOnce(x, y float64) float64 { return back(new(big.Float).Mul(broad(x), broad(y))) }
func plusOnce(x, y float64) float64  { return back(new(big.Float).Add(broad(x), broad(y))) }
func overOnce(x, y float64) float64  { return back(new(big.Float).Quo(broad(x), broad(y))) }

// crossOnce follows the rule for Cross.
func crossOnce(z, w complex128) float64 {
	return plusOnce(timesOnce(real(z), imag(w)), -timesOnce(imag(z), real(w)))
}

// splitOf follows the rule for SplitWay, where the way is valid.
func splitOf(way complex128, ka, kb int) (float64, float64, bool) {
	if apart := cutOf(ka, kb); apart < 5 || apart > 175 {
		return 0, 0, false
	}
	u, v := ruledTurn(ka), ruledTurn(kb)
	e := crossOnce(u, v)
	return overOnce(crossOnce(way, v), e), overOnce(crossOnce(u, way), e), true
}

// checkSplit checks that SplitWay follows its rule, and returns what it tells.
func checkSplit(t *testing.T, way complex128, ka, kb int) (float64, float64, bool) {
	t.Helper()
	wantM, wantN, fine := splitOf(way, ka, kb)
	m, n, ok := impl.SplitWay(way, ka, kb)
	if ok != fine || !sameFloat(m, wantM) || !sameFloat(n, wantN) {
		t.Fatalf("SplitWay(%v, %d, %d): %v %v %v, want %v %v %v", way, ka, kb, m, n, ok, wantM, wantN, fine)
	}
	return m, n, ok
}

// joined returns m·u + n·v, where u and v are the turns by ka and kb, without any rounding.
func joined(m float64, ka int, n float64, kb int) (*big.Rat, *big.Rat) {
	exact := func(x float64) *big.Rat { return new(big.Rat).SetFloat64(x) }
	product := func(x, y float64) *big.Rat { return new(big.Rat).Mul(exact(x), exact(y)) }
	u, v := ruledTurn(ka), ruledTurn(kb)
	north := new(big.Rat).Add(product(m, real(u)), product(n, real(v)))
	return north, new(big.Rat).Add(product(m, imag(u)), product(n, imag(v)))
}

// missOf tells how far m·u + n·v is away from a way.
func missOf(way complex128, m float64, ka int, n float64, kb int) float64 {
	north, east := joined(m, ka, n, kb)
	x, _ := north.Sub(north, new(big.Rat).SetFloat64(real(way))).Float64()
	y, _ := east.Sub(east, new(big.Rat).SetFloat64(imag(way))).Float64()
	return math.Hypot(x, y)
}

// splittable returns how far apart two headings may lie, to both sides.
func splittable() []int {
	return []int{5, 6, 7, 30, 80, 89, 90, 91, 120, 174, 175, 185, 186, 270, 315, 354, 355}
}

func TestSplitWayFollowsItsRule(t *testing.T) {
	d, ways := dice(53), append(wildVectors(400), edgeVectors()...)
	var told, flat, fusedM, fusedN, product int
	for range 8000 {
		way, ka, kb := ways[d.upTo(len(ways))], d.upTo(1080)-360, d.upTo(1080)-360
		m, n, ok := checkSplit(t, way, ka, kb)
		if !ok {
			flat++
			continue
		}
		told++
		u, v := impl.Turn(ka), impl.Turn(kb)
		e := impl.Cross(u, v)
		if math.FMA(real(way), imag(v), -(imag(way)*real(v)))/e != m {
			fusedM++
		}
		if math.FMA(real(u), imag(way), -(imag(u)*real(way)))/e != n {
			fusedN++
		}
		if impl.Cross(way, v)*(1/e) != m {
			product++
		}
	}
	if told < 3000 || flat < 200 || fusedM < 300 || fusedN < 300 || product < 300 {
		t.Error("only few ways are split, or cannot be, or show each step:", told, flat, fusedM, fusedN, product)
	}
}

// The parts of a way of at most 100000 metres lead where it leads, but for a ten thousandth of a metre.
func TestThePartsOfAWayLeadWhereItLeads(t *testing.T) {
	look := func(way complex128, ka, kb int) {
		t.Helper()
		m, n, ok := impl.SplitWay(way, ka, kb)
		if !ok {
			t.Fatalf("SplitWay(%v, %d, %d)", way, ka, kb)
		}
		if miss := missOf(way, m, ka, n, kb); miss > 1e-4 {
			t.Fatalf("SplitWay(%v, %d, %d): %v %v lead %v beside it", way, ka, kb, m, n, miss)
		}
	}
	short := func(way complex128) bool { return impl.Length(way) <= 100000 }
	ways := slices.DeleteFunc(append(wildVectors(400), edgeVectors()...), func(way complex128) bool { return !short(way) })
	ways = append(ways, 100000, -100000i, complex(below(100000), 0.001), 60000+80000i, -80000+60000i, 0)
	d := dice(54)
	for i, way := range ways {
		for _, apart := range splittable() {
			ka := d.upTo(1080) - 360
			look(way, ka, ka+apart)
			look(wayBy(i, math.Abs(d.within(100000-1e-6))), ka, ka-apart)
		}
	}
	for _, k := range edgeDegrees() {
		look(wayBy(k, 99999), k, k/2+degrees(new(big.Int).Sub(big.NewInt(int64(k)), big.NewInt(int64(k/2))))+90)
	}
}

// Headings that are alike, opposite, or nearly so, split no way.
func TestSplitWayOfHeadingsThatCutBadly(t *testing.T) {
	for ka := -400; ka <= 400; ka += 7 {
		for aside := -360; aside <= 360; aside++ {
			cut := (aside + 360) % 360
			want := 5 <= cut && cut <= 175 || 185 <= cut && cut <= 355
			for _, kb := range []int{ka + aside, ka + aside + 720} {
				m, n, ok := impl.SplitWay(300-400i, ka, kb)
				if ok != want || !ok && !(sameFloat(m, 0) && sameFloat(n, 0)) {
					t.Fatalf("%d and %d: %v %v %v", ka, kb, m, n, ok)
				}
			}
		}
	}
	for cut, want := range map[int]bool{0: false, 1: false, 4: false, 5: true, 6: true, 90: true, 174: true, 175: true, 176: false, 179: false, 180: false, 181: false, 184: false, 185: true, 355: true, 356: false, 360: false, 365: true, -4: false, -5: true, -175: true, -176: false, -180: false} {
		for _, way := range []complex128{0, 3 + 4i, 1e8 - 1e8i, 5e-324} {
			if _, _, ok := checkSplit(t, way, 77, 77+cut); ok != want {
				t.Errorf("%v, %d degrees: %v", way, cut, ok)
			}
		}
	}
}

func TestSplitWayOfAnyInt(t *testing.T) {
	some, none := 0, 0
	for _, ka := range edgeDegrees() {
		for _, kb := range edgeDegrees() {
			if _, _, ok := checkSplit(t, 1000-500i, ka, kb); ok {
				some++
			} else {
				none++
			}
		}
	}
	if some < 1000 || none < 1000 {
		t.Error("only few headings split a way, or do not:", some, none)
	}
	for _, k := range []int{math.MinInt, math.MaxInt} {
		k2 := degrees(big.NewInt(int64(k)))
		for _, apart := range splittable() {
			m, n, ok := impl.SplitWay(1000-500i, k, k2+apart)
			if mm, nn, fine := impl.SplitWay(1000-500i, k2, k2+apart); !ok || !fine || m != mm || n != nn {
				t.Errorf("%d and %d: %v %v %v, want %v %v %v", k, k2+apart, m, n, ok, mm, nn, fine)
			}
		}
	}
}

func TestSplitWayOfSmallNumbers(t *testing.T) {
	half := 100 / math.Sqrt2
	cases := []struct {
		way    complex128
		ka, kb int
		m, n   float64
	}{
		{100, 45, 315, half, half}, {100, 315, 45, half, half}, {100i, 45, 135, half, half}, {-100, 135, 225, half, half}, {-100i, 225, 315, half, half}, {3 + 4i, 0, 90, 3, 4}, {3 + 4i, 90, 0, 4, 3}, {3 + 4i, 360, -270, 3, 4}, {100, 60, 300, 100, 100}, {100, 60, -60, 100, 100},
		// Beyond the one heading, beyond the other, and behind both.
		{3 - 4i, 0, 90, 3, -4}, {-3 + 4i, 0, 90, -3, 4}, {-3 - 4i, 0, 90, -3, -4}, {100i, 45, 315, half, -half}, {-100i, 45, 315, -half, half}, {-100, 45, 315, -half, -half}, {100, 90, 45, -100, 100 * math.Sqrt2}, {100, 45, 90, 100 * math.Sqrt2, -100},
		// Along one of them, and away from it.
		{100, 0, 90, 100, 0}, {100i, 0, 90, 0, 100}, {-100, 0, 90, -100, 0}, {-100i, 0, 90, 0, -100}, {50 + 50i, 45, 120, half, 0}, {50 + 50i, 120, 45, 0, half}, {100, 0, 5, 100, 0}, {100, 175, 0, 0, 100}, {100, 5, 180, 0, -100},
		{1e8, 0, 5, 1e8, 0}, {1e8i, 0, 90, 0, 1e8}, {1e8, 45, 315, 1e6 * half, 1e6 * half},
		// Nearly alike, a way across takes long parts.
		{1i, 2, 357, 11.458, -11.467}, {1, 87, -88, 11.467, 11.458},
	}
	for _, c := range cases {
		m, n, ok := checkSplit(t, c.way, c.ka, c.kb)
		if near := 1e-3 * max(1, math.Abs(real(c.way))/1e6, math.Abs(imag(c.way))/1e6); !ok || math.Abs(m-c.m) > near || math.Abs(n-c.n) > near {
			t.Errorf("SplitWay(%v, %d, %d): %v %v %v, want about %v and %v", c.way, c.ka, c.kb, m, n, ok, c.m, c.n)
		}
	}
}

// Outside of both headings a part is less than 0: the second one beyond the first heading, the first
// one beyond the second heading, and both behind them.
func TestSplitWayOfWaysOutsideOfBothHeadings(t *testing.T) {
	for ka := 0; ka < 360; ka += 11 {
		for _, apart := range []int{5, 6, 45, 80, 90, 135, 174, 175} {
			for _, side := range []int{1, -1} {
				for off := 1; off < 360; off++ {
					if off == apart || off == 180 || off == 180+apart {
						continue
					}
					m, n, ok := impl.SplitWay(wayBy(ka+side*off, 500), ka, ka+side*apart)
					if !ok || (m > 0) != (off < apart || off > 180+apart) || (n > 0) != (off < 180) {
						t.Fatalf("%d degrees from %d, which is %d from the other: %v %v %v", side*off, ka, side*apart, m, n, ok)
					}
				}
			}
		}
	}
}

// A way along one of the headings has no part along the other one, if it is that turn itself, or a
// power of two of it: to the last bit.
func TestSplitWayAlongOneOfTheHeadings(t *testing.T) {
	for k := -30; k < 390; k += 7 {
		for _, apart := range splittable() {
			for _, metres := range []float64{1, 0.125, 4096, 1 << 26, -1, -64, 0x1p-300} {
				way := complex(metres*real(impl.Turn(k)), metres*imag(impl.Turn(k)))
				if m, n, ok := checkSplit(t, way, k, k+apart); !ok || m != metres || n != 0 {
					t.Fatalf("%v metres along %d, the first heading: %v %v %v", metres, k, m, n, ok)
				}
				if m, n, ok := checkSplit(t, way, k-apart, k); !ok || m != 0 || n != metres {
					t.Fatalf("%v metres along %d, the second heading: %v %v %v", metres, k, m, n, ok)
				}
			}
		}
	}
}

// The signs of the parts of a way of no length, and what the least floats are rounded to, are those
// of the rule.
func TestSplitWayOfNoLength(t *testing.T) {
	const least = math.SmallestNonzeroFloat64
	z := negativeZero
	var signs [2]int
	for _, way := range []complex128{0, complex(z, z), complex(0, z), complex(z, 0)} {
		for ka := 10; ka < 360; ka += 20 {
			for _, apart := range splittable() {
				m, n, ok := checkSplit(t, way, ka, ka+apart)
				if !ok || m != 0 || n != 0 {
					t.Fatalf("%v, %d and %d: %v %v %v", way, ka, ka+apart, m, n, ok)
				}
				for _, part := range []float64{m, n} {
					if math.Signbit(part) {
						signs[0]++
					} else {
						signs[1]++
					}
				}
			}
		}
	}
	if signs[0] < 100 || signs[1] < 100 {
		t.Error("only few parts of one sign:", signs)
	}
	for _, way := range []complex128{least, -least, least * 1i, complex(least, least), complex(-3*least, 2*least), complex(7*least, z), 1e-310 - 2e-309i, 1e-300} {
		for ka := 0; ka < 360; ka += 5 {
			for _, apart := range splittable() {
				checkSplit(t, way, ka, ka+apart)
			}
		}
	}
}

func TestSplitWayAtTheEdgesOfThePlane(t *testing.T) {
	const edge = impl.MaxPlane
	for _, way := range []complex128{edge, -edge, edge * 1i, complex(edge, edge), complex(-edge, edge), complex(edge, -edge), complex(below(edge), -edge)} {
		for _, apart := range splittable() {
			m, n, ok := checkSplit(t, way, 33, 33+apart)
			if size := math.Hypot(real(way), imag(way)); !ok || math.IsInf(m, 0) || math.IsInf(n, 0) || missOf(way, m, 33, n, 33+apart) > 1e-14*size*20 {
				t.Errorf("%v, %d apart: %v %v %v", way, apart, m, n, ok)
			}
		}
	}
}

func TestSplitWayOfWhatIsNotValid(t *testing.T) {
	for _, way := range brokenVectors() {
		for _, apart := range append(splittable(), 0, 1, 4, 176, 180, 356) {
			for _, ka := range []int{0, 45, -720, math.MinInt, math.MaxInt - 720} {
				if m, n, ok := impl.SplitWay(way, ka, ka+apart); ok || !sameFloat(m, 0) || !sameFloat(n, 0) {
					t.Fatalf("SplitWay(%v, %d, %d): %v %v %v", way, ka, ka+apart, m, n, ok)
				}
			}
		}
	}
}
