package tests

import (
	"math"
	"slices"
	"testing"

	"loop.example/g03321/impl"
)

// setOf follows the rule for SetOf, where all arguments are valid.
func setOf(reckoned, fixed complex128, seconds int) (complex64, bool) {
	way, n := lessOf(fixed, reckoned), float64(seconds)
	set := complex(float32(over(real(way), n)), float32(over(imag(way), n)))
	if !impl.VelocityOk(set) {
		return 0, false
	}
	return set, true
}

func TestSetOfFollowsItsRule(t *testing.T) {
	d, list, times := dice(44), marks(), legTimes()[1:]
	told, fast, narrow := 0, 0, 0
	for range 30000 {
		reckoned, fixed, seconds := list[d.upTo(len(list))], list[d.upTo(len(list))], times[d.upTo(len(times))]
		if d.upTo(2) == 0 {
			seconds = 1 + d.upTo(impl.MaxLeg)
		}
		if d.upTo(2) == 0 {
			fixed = reckoned + complex(d.within(1e6), d.within(1000))
		}
		if !impl.VectorOk(fixed) {
			continue
		}
		want, fine := setOf(reckoned, fixed, seconds)
		if got, ok := impl.SetOf(reckoned, fixed, seconds); ok != fine || !sameWind(got, want) {
			t.Fatalf("SetOf(%v, %v, %d): %v %v, want %v %v", reckoned, fixed, seconds, got, ok, want, fine)
		}
		if !fine {
			fast++
			continue
		}
		told++
		if over32(float32(real(fixed)-real(reckoned)), float32(seconds)) != real(want) {
			narrow++
		}
	}
	if told < 3000 || fast < 3000 || narrow < 1000 {
		t.Error("only few sets are told, or too fast, or show that all is wide:", told, fast, narrow)
	}
}

func TestSetOfSmallNumbers(t *testing.T) {
	z, z32, least := negativeZero, float32(negativeZero), float32(math.SmallestNonzeroFloat32)
	tie := 100 + math.Ldexp(1, -18)
	cases := []struct {
		reckoned, fixed complex128
		seconds         int
		want            complex64
		ok              bool
	}{
		{0, 100 + 50i, 10, 10 + 5i, true}, {100 + 50i, 0, 10, -10 - 5i, true}, {3 - 4i, 10 - 4i, 2, 3.5, true}, {1, 2i, 3, complex(float32(-1.0/3), float32(2.0/3)), true}, {7, 7, 5, 0, true}, {-1e8 + 1e8i, -1e8 + 1e8i, impl.MaxLeg, 0, true},
		// 0 less 0 is 0, and -0 less 0 is -0.
		{0, 0, 1, 0, true}, {complex(z, z), complex(z, z), 3, 0, true}, {0, complex(z, 0), 3, complex(z32, 0), true}, {complex(z, 0), 0, 3, 0, true}, {1 + 1i, 1, 1, -1i, true},
		{0, 5, 1, 5, true}, {0, 5, 0, 0, false}, {7, 7, 0, 0, false}, {0, 100, 1, 100, true}, {0, 101, 1, 0, false}, {0, 1e7 - 1e7i, impl.MaxLeg, 100 - 100i, true}, {0, 1e7 - 1e7i, impl.MaxLeg - 1, 0, false}, {0, 1e7, impl.MaxLeg + 1, 0, false}, {0, 0, impl.MaxLeg + 1, 0, false}, {5, 5, -1, 0, false},
		// Too fast to the one or to the other side, in one part alone; also when all of the plane lies between.
		{0, 7 + 500i, 4, 0, false}, {0, 7 - 500i, 4, 0, false}, {0, -500 + 7i, 4, 0, false}, {1e8, -1e8, impl.MaxLeg, 0, false}, {1e8 - 1e8i, -1e8 + 1e8i, 1, 0, false},
		// Narrowed to the greatest velocity, and just beyond it.
		{0, complex(tie, 0), 1, 100, true}, {0, complex(above(tie), 0), 1, 0, false}, {0, complex(-tie, tie), 1, -100 + 100i, true}, {0, complex(0, below(-tie)), 1, 0, false}, {0, complex(above(100), below(-100)), 1, 100 - 100i, true}, {0, complex(below(100), 0), 1, 100, true}, {0, complex(2*tie, 0), 2, 100, true}, {0, 100.000003, 1, 100, true}, {0, 100.000004, 1, 0, false},
		// Narrowed to the least single, and to 0.
		{0, complex(float64(least), float64(-least)), 1, complex(least, -least), true}, {0, complex(float64(least), float64(-least)), 2, complex(0, z32), true}, {0, complex(3*float64(least), 0), 4, complex(least, 0), true}, {0, complex(1e-300, -1e-300), 5, complex(0, z32), true}, {0, 5e-324, 1, 0, true}, {1e-9, 1e-9 + 1e-9i, 1000, 1e-12i, true},
	}
	for _, c := range cases {
		if got, ok := impl.SetOf(c.reckoned, c.fixed, c.seconds); ok != c.ok || !sameWind(got, c.want) {
			t.Errorf("SetOf(%v, %v, %d): %v %v, want %v %v", c.reckoned, c.fixed, c.seconds, got, ok, c.want, c.ok)
		}
	}
}

// A quotient half between two singles is narrowed to the even one, and a float above or below it
// would not be; so it must be the quotient, and not a product with the inverse of the seconds.
func TestSetOfHalfBetweenTwoSingles(t *testing.T) {
	d, products := dice(47), 0
	for range 20000 {
		low, seconds := float32(math.Abs(d.within(99))), 1+d.upTo(impl.MaxLeg)
		n, half := float64(seconds), (float64(low)+float64(next(low)))/2
		want := low
		if math.Float32bits(low)%2 == 1 {
			want = next(low)
		}
		if got, ok := impl.SetOf(0, complex(half*n, -half*n), seconds); !ok || !sameWind(got, complex(want, -want)) {
			t.Fatalf("%v seconds by %v: %v %v, want %v", seconds, half, got, ok, want)
		}
		if float32(half*n*(1/n)) != want {
			products++
		}
	}
	if products < 300 {
		t.Error("only few show that a quotient is made:", products)
	}
}

// If all are whole numbers of eighths, SetOf of both ends of a step is the velocity.
func TestSetOfBothEndsOfAStep(t *testing.T) {
	check := func(pos complex128, v complex64, seconds int) {
		t.Helper()
		end, stepped := impl.StepOn(pos, v, seconds)
		if got, ok := impl.SetOf(pos, end, seconds); !stepped || !ok || !sameWind(got, v) {
			t.Fatalf("from %v by %v for %d seconds to %v %v, set %v %v", pos, v, seconds, end, stepped, got, ok)
		}
	}
	d := dice(45)
	part := func() float64 { return float64(d.upTo(10000)) / 8 }
	for m := -400; m <= 400; m++ {
		for range 60 {
			check(complex(part(), part()), complex(eighth(m), eighth(d.upTo(801)-400)), 1+d.upTo(10000))
			check(complex(part(), part()), complex(eighth(d.upTo(801)-400), eighth(m)), 1+d.upTo(10000))
		}
		for _, seconds := range []int{1, 2, 3, 7, 600, 9999, 10000} {
			for _, pos := range []complex128{0, 9999.0 / 8, 9999i / 8, (9999 + 9999i) / 8, 0.125 + 7.875i} {
				check(pos, complex(eighth(m), eighth(-m)), seconds)
				check(pos, complex(eighth(m), 0), seconds)
			}
		}
	}
}

func TestSetOfWhatIsNotValid(t *testing.T) {
	refuse := func(reckoned, fixed complex128, seconds int) {
		t.Helper()
		if got, ok := impl.SetOf(reckoned, fixed, seconds); ok || !sameWind(got, 0) {
			t.Fatalf("SetOf(%v, %v, %d): %v %v", reckoned, fixed, seconds, got, ok)
		}
	}
	for _, seconds := range append(legTimes(), brokenLegTimes()...) {
		for _, bad := range brokenVectors() {
			refuse(bad, 1e8, seconds)
			refuse(1e8-1e8i, bad, seconds)
			refuse(bad, bad, seconds)
			refuse(0, bad, seconds)
		}
	}
	for _, seconds := range append(brokenLegTimes(), 0) {
		for _, pos := range []complex128{0, 5 - 7i, 1e8} {
			refuse(pos, pos, seconds)
			refuse(pos, 3, seconds)
		}
	}
}

// hatOf follows the rule for Hat, where the list is valid.
func hatOf(list []complex128) (complex128, float64) {
	var a, b, far float64
	for _, pos := range list {
		a, b = plus(a, real(pos)), plus(b, imag(pos))
	}
	n := float64(len(list))
	middle := complex(over(a, n), over(b, n))
	for _, pos := range list {
		far = max(far, impl.Length(lessOf(pos, middle)))
	}
	return middle, far
}

// wildList returns n of these positions.
func wildList(d *dice, places []complex128, n int) []complex128 {
	var list []complex128
	for range n {
		list = append(list, places[d.upTo(len(places))])
	}
	return list
}

// hats returns lists of positions, of each length, some of them near to each other.
func hats() [][]complex128 {
	d, places := dice(46), marks()
	var lists [][]complex128
	for n := 1; n <= impl.MaxLegs; n++ {
		for range 20 {
			list := wildList(&d, places, n)
			near := make([]complex128, n)
			for i := range near {
				near[i] = 0.9*list[0] + complex(d.within(500), d.within(500))
			}
			lists = append(lists, list, near)
		}
	}
	return lists
}

func TestHatFollowsItsRule(t *testing.T) {
	order, quotient := 0, 0
	for _, list := range hats() {
		given := slices.Clone(list)
		want, wantFar := hatOf(list)
		got, far, ok := impl.Hat(list)
		if !ok || !sameComplex(got, want) || !sameFloat(far, wantFar) {
			t.Fatalf("Hat(%v): %v %v %v, want %v %v", list, got, far, ok, want, wantFar)
		}
		if !slices.EqualFunc(list, given, sameComplex) {
			t.Fatalf("%v has become %v", given, list)
		}
		slices.Reverse(list)
		if other, _ := hatOf(list); !sameComplex(other, want) {
			order++
		}
		n := float64(len(list))
		if real(want)*n*(1/n) != real(want) {
			quotient++
		}
	}
	if order < 500 || quotient < 100 {
		t.Error("only few middles show the order of the sum, or the quotient:", order, quotient)
	}
}

func TestHatOfSmallNumbers(t *testing.T) {
	z := negativeZero
	cases := []struct {
		list   []complex128
		middle complex128
		far    float64
	}{
		{[]complex128{0, 2}, 1, 1}, {[]complex128{2, 0}, 1, 1}, {[]complex128{7 - 3i}, 7 - 3i, 0}, {[]complex128{0, 6, 3 + 12i}, 3 + 4i, 8}, {[]complex128{3 + 4i, -3 - 4i}, 0, 5}, {[]complex128{3 + 4i, -3 - 4i, 0, 0}, 0, 5}, {[]complex128{-1i, -3i}, -2i, 1}, {[]complex128{12, 0, 0}, 4, 8},
		{[]complex128{complex(z, z)}, 0, 0}, {[]complex128{complex(z, z), complex(z, z)}, 0, 0}, {[]complex128{complex(z, 1), complex(z, -1)}, 0, 1},
		// The sum is made in order, and rounded each time.
		{[]complex128{1e8, 1e-9, -1e8}, 0, 1e8}, {[]complex128{1e8, -1e8, 3e-9}, 1e-9, 1e8}, {[]complex128{0.1, 0.2, 0.3}, 0.2, 0.1},
		// What is nearer than a thousandth of a millimetre is no distance.
		{[]complex128{0, 1e-7}, 5e-8, 0}, {[]complex128{5, 5 + 1e-6i}, 5 + 5e-7i, 0}, {[]complex128{0, 3e-6}, 1.5e-6, 1.5e-6},
		{alikeVectors(7-3i, impl.MaxLegs), 7 - 3i, 0}, {alikeVectors(1e8-1e8i, impl.MaxLegs), 1e8 - 1e8i, 0}, {[]complex128{1e8, -1e8}, 0, 1e8}, {append(alikeVectors(0, impl.MaxLegs-1), 50), 1, 49},
	}
	for _, c := range cases {
		middle, far, ok := impl.Hat(c.list)
		off := middle - c.middle
		if !ok || math.Hypot(real(off), imag(off)) > 1e-15 || math.Abs(far-c.far) > 1e-15 || c.middle == 0 && !sameComplex(middle, 0) {
			t.Errorf("Hat(%v): %v %v %v, want %v %v", c.list, middle, far, ok, c.middle, c.far)
		}
	}
}

// alikeVectors returns a list of n equal vectors.
func alikeVectors(pos complex128, n int) []complex128 {
	return slices.Repeat([]complex128{pos}, n)
}

// Positions that are alike have their middle where they are, but for roundings, and no distance.
func TestHatOfAlikePositions(t *testing.T) {
	for _, pos := range append(marks(), edgeVectors()...) {
		for _, n := range []int{1, 2, 3, 7, 10, 49, impl.MaxLegs} {
			middle, far, ok := impl.Hat(alikeVectors(pos, n))
			if off := middle - pos; !ok || far != 0 || math.Hypot(real(off), imag(off)) > 1e-6 || n < 3 && middle != pos {
				t.Errorf("%d times %v: %v %v %v", n, pos, middle, far, ok)
			}
		}
	}
}

// No position of a hat is farther from its middle than is told, and one is as far.
func TestNoPositionIsFartherThanIsTold(t *testing.T) {
	for _, list := range hats() {
		middle, far, ok := impl.Hat(list)
		if !ok {
			t.Fatalf("Hat(%v)", list)
		}
		reached, beyond := false, false
		for _, pos := range list {
			away := impl.Length(pos - middle)
			reached = reached || away == far
			beyond = beyond || !impl.VectorOk(pos-middle)
			if away > far {
				t.Fatalf("%v is farther from %v than %v", pos, middle, far)
			}
			// Beyond the plane a difference has no length, which counts as 0.
			if exact := math.Hypot(real(pos-middle), imag(pos-middle)); impl.VectorOk(pos-middle) && exact > far*(1+1e-14)+1e-6 {
				t.Fatalf("%v is %v away from %v, and %v is told", pos, exact, middle, far)
			}
		}
		if !reached && !beyond {
			t.Fatalf("none of %v is %v away from %v", list, far, middle)
		}
	}
}

// The difference of a position and the middle need not be valid; its Length is 0 then.
func TestHatOfPositionsAllOverThePlane(t *testing.T) {
	cases := []struct {
		list []complex128
		far  float64
	}{
		{[]complex128{-1e8, 1e8, 1e8, 1e8}, 5e7}, {[]complex128{1e8i, 1e8i, 1e8i, -1e8i}, 5e7}, {append(alikeVectors(1e8, 49), -1e8), 4e6}, {[]complex128{-1e8, 0, 0, 0}, 7.5e7}, {[]complex128{-1e8, 1e8}, 1e8},
	}
	for _, c := range cases {
		if _, far, ok := impl.Hat(c.list); !ok || far != c.far {
			t.Errorf("Hat(%v): %v %v, want %v", c.list, far, ok, c.far)
		}
	}
}

func TestHatOfWhatIsNotValid(t *testing.T) {
	refuse := func(list []complex128) {
		t.Helper()
		given := slices.Clone(list)
		if middle, far, ok := impl.Hat(list); ok || !sameComplex(middle, 0) || !sameFloat(far, 0) {
			t.Fatalf("Hat(%v): %v %v %v", list, middle, far, ok)
		}
		if !slices.EqualFunc(list, given, sameComplex) {
			t.Fatalf("%v has become %v", given, list)
		}
	}
	refuse(nil)
	refuse([]complex128{})
	for _, n := range []int{impl.MaxLegs + 1, 2 * impl.MaxLegs, 1000} {
		refuse(alikeVectors(0, n))
		refuse(alikeVectors(5-2i, n))
	}
	for _, bad := range brokenVectors() {
		for _, n := range []int{1, 2, 7, impl.MaxLegs} {
			for _, place := range []int{0, n / 2, n - 1} {
				list := alikeVectors(3+4i, n)
				list[place] = bad
				refuse(list)
			}
		}
	}
}

// Whatever Hat writes behind the elements of its list is seen in the room behind them.
func TestNothingIsWrittenIntoAListOfPositions(t *testing.T) {
	room := []complex128{3, 9 + 1i, -5i, 1e8, complex(math.Inf(1), 7), -2}
	given := slices.Clone(room)
	for n := range len(room) + 1 {
		first, firstFar, ok := impl.Hat(room[:n])
		again, againFar, fine := impl.Hat(room[:n])
		if !sameComplex(first, again) || !sameFloat(firstFar, againFar) || ok != fine {
			t.Errorf("of %v: %v %v %v, and again %v %v %v", room[:n], first, firstFar, ok, again, againFar, fine)
		}
		if !slices.EqualFunc(room, given, sameComplex) {
			t.Fatalf("%v has become %v", given, room)
		}
	}
}
