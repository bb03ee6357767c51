package tests

import (
	"math"
	"slices"
	"testing"

	"loop.example/g03321/impl"
)

// oneRow returns a polar of one wind, of the speed 10, with the given speeds at their angles. Unless
// 0 or 180 are among these, the speed is 0 there.
func oneRow(angles []int, speeds ...float32) impl.Polar {
	p := impl.Polar{Winds: []float32{10}, Angles: slices.Clone(angles), Speeds: [][]float32{speeds}}
	if angles[0] != 0 {
		p.Angles = append([]int{0}, p.Angles...)
		p.Speeds[0] = append([]float32{0}, p.Speeds[0]...)
	}
	if angles[len(angles)-1] != 180 {
		p.Angles = append(p.Angles, 180)
		p.Speeds[0] = append(p.Speeds[0], 0)
	}
	return p
}

// checkBest checks that best is the least angle from low to high at which measure is greatest, and
// that there is one if, and only if, it is greater than 0 somewhere.
func checkBest(t *testing.T, low, high, best int, ok bool, measure func(angle int) float32) {
	t.Helper()
	if ok && (best < low || best > high || measure(best) <= 0) || !ok && best != 0 {
		t.Fatalf("%d %v", best, ok)
	}
	for angle := low; angle <= high; angle++ {
		m := measure(angle)
		if !ok && m > 0 {
			t.Fatalf("there is none, but at %d there is %v", angle, m)
		}
		if ok && (m > measure(best) || m == measure(best) && angle < best) {
			t.Fatalf("%d is told with %v, but at %d there is %v", best, measure(best), angle, m)
		}
	}
}

// speedsAndMade returns what SpeedAt and MadeUp tell for all angles.
func speedsAndMade(t *testing.T, p impl.Polar, wind float32) ([181]float32, [181]float32) {
	t.Helper()
	var speeds, made [181]float32
	for angle := range 181 {
		speed, ok := impl.SpeedAt(p, wind, angle)
		up, fine := impl.MadeUp(p, wind, angle)
		if !ok || !fine {
			t.Fatalf("%v tells nothing for %v at %d", p, wind, angle)
		}
		speeds[angle], made[angle] = speed, up
	}
	return speeds, made
}

func TestMadeUpFollowsItsRule(t *testing.T) {
	wide := 0
	for _, p := range goodPolars() {
		given := copyOf(p)
		for _, wind := range airSpeeds(p) {
			for _, angle := range angles(p) {
				speed, _ := impl.SpeedAt(p, wind, angle)
				turn := real(impl.Turn(angle))
				want := times32(speed, float32(turn))
				if got, ok := impl.MadeUp(p, wind, angle); !ok || !sameSingle(got, want) {
					t.Fatalf("MadeUp(%v, %v, %d): %v %v, want %v", p, wind, angle, got, ok, want)
				}
				if float32(times(float64(speed), turn)) != want {
					wide++
				}
			}
		}
		if !samePolar(p, given) {
			t.Fatalf("%v has become %v", given, p)
		}
	}
	if wide < 1000 {
		t.Error("only few products show whether the turn is narrowed:", wide)
	}
}

func TestMadeUpOfSmallNumbers(t *testing.T) {
	p := oneRow([]int{0, 60, 90, 120, 180}, 2, 4, 6, 4, 3)
	for angle, want := range map[int]float32{0: 2, 60: 2, 120: -2, 180: -3} {
		if got, ok := impl.MadeUp(p, 10, angle); !ok || math.Abs(float64(got-want)) > 1e-6 {
			t.Errorf("at %d: %v %v, want about %v", angle, got, ok, want)
		}
	}
	if got, ok := impl.MadeUp(p, 10, 90); !ok || math.Abs(float64(got)) > 1e-12 {
		t.Error("at 90:", got, ok)
	}
	if got, ok := impl.MadeUp(p, 0, 180); !ok || !sameSingle(got, float32(negativeZero)) {
		t.Error("without a wind, at 180:", got, ok)
	}
}

// No angle up to 90 makes more to windward than BestUp, none from 91 on more to leeward than
// BestDown, and none is faster than Fastest.
func TestNoAngleIsBetterThanTheBestOnes(t *testing.T) {
	some, none := [3]int{}, [3]int{}
	for _, p := range goodPolars() {
		given := copyOf(p)
		for _, wind := range airSpeeds(p) {
			speeds, made := speedsAndMade(t, p, wind)
			up, upOk := impl.BestUp(p, wind)
			checkBest(t, 0, 90, up, upOk, func(angle int) float32 { return made[angle] })
			down, downOk := impl.BestDown(p, wind)
			checkBest(t, 91, 180, down, downOk, func(angle int) float32 { return -made[angle] })
			fast, fastOk := impl.Fastest(p, wind)
			checkBest(t, 0, 180, fast, fastOk, func(angle int) float32 { return speeds[angle] })
			for i, ok := range []bool{upOk, downOk, fastOk} {
				if ok {
					some[i]++
				} else {
					none[i]++
				}
			}
		}
		if !samePolar(p, given) {
			t.Fatalf("%v has become %v", given, p)
		}
	}
	for i := range some {
		if some[i] < 100 || none[i] < 100 {
			t.Error("only few have one, or have none:", some, none)
		}
	}
}

// bestOnes returns what BestUp, BestDown and Fastest tell, -1 for one that does not exist.
func bestOnes(t *testing.T, p impl.Polar, wind float32) [3]int {
	t.Helper()
	var list [3]int
	for i, best := range []func(impl.Polar, float32) (int, bool){impl.BestUp, impl.BestDown, impl.Fastest} {
		angle, ok := best(p, wind)
		if !ok && angle != 0 {
			t.Errorf("%v, wind %v: %d, but there is none", p, wind, angle)
		}
		if !ok {
			angle = -1
		}
		list[i] = angle
	}
	return list
}

func TestBestAnglesOfOrdinaryPolars(t *testing.T) {
	p := cruiser()
	cases := []struct {
		p    impl.Polar
		wind float32
		want [3]int
	}{
		{p, 1, [3]int{50, 143, 75}}, {p, 3, [3]int{50, 143, 75}}, {p, 4, [3]int{44, 145, 75}}, {p, 6, [3]int{40, 155, 90}}, {p, 8, [3]int{40, 172, 90}}, {p, 10, [3]int{40, 173, 110}},
		{p, 16, [3]int{40, 175, 120}}, {p, 100, [3]int{40, 175, 120}},
		{p, 0, [3]int{-1, -1, -1}}, {p, float32(negativeZero), [3]int{-1, -1, -1}}, {p, math.SmallestNonzeroFloat32, [3]int{-1, -1, -1}},
		// Fastest into the wind, and with it.
		{oneRow([]int{0, 180}, 5, 0), 10, [3]int{0, 131, 0}}, {oneRow([]int{0, 180}, 0, 5), 10, [3]int{49, 180, 180}},
		{flat([]float32{10}, []int{0, 180}, 5), 10, [3]int{0, 180, 0}},
		{flat([]float32{10}, []int{0, 180}, impl.MaxBoat), impl.MaxSpeed, [3]int{0, 180, 0}},
	}
	for _, c := range cases {
		if got := bestOnes(t, c.p, c.wind); got != c.want {
			t.Errorf("%v, wind %v: %v, want %v", c.p, c.wind, got, c.want)
		}
	}
}

func TestPolarsThatMakeNothing(t *testing.T) {
	cases := []struct {
		p    impl.Polar
		want [3]int
	}{
		{oneRow([]int{90, 91, 180}, 0, 5, 5), [3]int{-1, 180, 91}},
		{oneRow([]int{90, 91, 92}, 0, 5, 0), [3]int{-1, 91, 91}},
		{oneRow([]int{179}, 0), [3]int{-1, -1, -1}},
		{oneRow([]int{0, 60, 90, 91}, 3, 4, 0, 0), [3]int{16, -1, 60}},
		// By its roundings, a turn by 90 degrees leads slightly to windward.
		{oneRow([]int{89, 90, 91}, 0, 5, 0), [3]int{90, -1, 90}},
		{oneRow([]int{0, 1, 180}, 0, 0, 0), [3]int{-1, -1, -1}},
		{oneRow([]int{0, 180}, float32(negativeZero), float32(negativeZero)), [3]int{-1, -1, -1}},
		{oneRow([]int{0, 1}, 5, 0), [3]int{0, -1, 0}},
		{oneRow([]int{179, 180}, 0, 5), [3]int{-1, 180, 180}},
		// What is made to windward is rounded to 0, or to the least single.
		{oneRow([]int{60, 61, 62}, 0, math.SmallestNonzeroFloat32, 0), [3]int{-1, -1, 61}},
		{oneRow([]int{59, 60, 61}, 0, 2*math.SmallestNonzeroFloat32, 0), [3]int{60, -1, 60}},
	}
	for _, c := range cases {
		if got := bestOnes(t, c.p, 10); got != c.want {
			t.Errorf("%v: %v, want %v", c.p, got, c.want)
		}
		if got := bestOnes(t, c.p, 0); got != [3]int{-1, -1, -1} {
			t.Errorf("%v without a wind: %v", c.p, got)
		}
	}
}

func TestFastestOfAnglesThatAreEquallyGood(t *testing.T) {
	cases := []struct {
		p    impl.Polar
		want int
	}{
		{oneRow([]int{40, 90}, 5, 5), 40}, {oneRow([]int{40, 60, 90, 100}, 5, 1, 5, 2), 40}, {oneRow([]int{0, 90, 180}, 5, 1, 5), 0},
		{oneRow([]int{30, 60, 100, 150}, 2, prior(5), 1, 5), 150}, {oneRow([]int{30, 60, 100, 150}, 2, 5, 1, prior(5)), 60}, {oneRow([]int{100, 140, 180}, 1, 5, 5), 140},
	}
	for _, c := range cases {
		if got := bestOnes(t, c.p, 10); got[2] != c.want {
			t.Errorf("%v: %d, want %d", c.p, got[2], c.want)
		}
	}
}

// alikeAt returns two speeds of which as much is made to windward, or to leeward, at the angle a and
// at the angle b.
func alikeAt(d *dice, a, b int) (float32, float32) {
	turnA, turnB := float32(real(impl.Turn(a))), float32(real(impl.Turn(b)))
	for {
		s := 1 + float32(d.upTo(1<<20))/(1<<18)
		if u := over32(times32(s, turnA), turnB); u < 49 && times32(u, turnB) == times32(s, turnA) {
			return s, u
		}
	}
}

// twoPeaks returns a polar with the speeds s and u at the angles a and b, and less beside both.
func twoPeaks(a, b int, s, u float32) impl.Polar {
	return oneRow([]int{a - 1, a, a + 1, b - 1, b, b + 1}, 0, s, 0, 0, u, 0)
}

// slightlyMore returns a greater single, of which more is made at each angle, too.
func slightlyMore(x float32) float32 { return next(next(next(x))) }

// bestOfPeaks returns the best angles where as much is made at a as at b, where slightly more is made
// at a, and where slightly more is made at b.
func bestOfPeaks(t *testing.T, d *dice, a, b int) [3][3]int {
	t.Helper()
	s, u := alikeAt(d, a, b)
	return [3][3]int{
		bestOnes(t, twoPeaks(a, b, s, u), 10),
		bestOnes(t, twoPeaks(a, b, slightlyMore(s), u), 10),
		bestOnes(t, twoPeaks(a, b, s, slightlyMore(u)), 10),
	}
}

func TestBestUpAndDownOfAnglesThatAreEquallyGood(t *testing.T) {
	d := dice(9)
	for range 500 {
		a := 1 + d.upTo(80)
		b := a + 3 + d.upTo(84-a)
		if got := bestOfPeaks(t, &d, a, b); got != [3][3]int{{a, -1, b}, {a, -1, b}, {b, -1, b}} {
			t.Fatalf("up, at %d and %d: %v", a, b, got)
		}
		a = 95 + d.upTo(80)
		b = a + 3 + d.upTo(177-a)
		if got := bestOfPeaks(t, &d, a, b); got != [3][3]int{{-1, a, a}, {-1, a, a}, {-1, b, a}} {
			t.Fatalf("down, at %d and %d: %v", a, b, got)
		}
	}
}

func TestBestAnglesOfWhatIsNotValid(t *testing.T) {
	for name, p := range brokenPolars() {
		for _, wind := range []float32{0, 3, 5, 100, float32(math.NaN())} {
			if got := bestOnes(t, p, wind); got != [3]int{-1, -1, -1} {
				t.Errorf("%s, wind %v: %v", name, wind, got)
			}
		}
	}
	for _, p := range goodPolars() {
		for _, wind := range brokenAirSpeeds() {
			if got := bestOnes(t, p, wind); got != [3]int{-1, -1, -1} {
				t.Errorf("%v, wind %v: %v", p, wind, got)
			}
		}
	}
}
