package tests

import (
	"math"
	"math/big"
	"slices"
	"testing"

	"loop.example/g03321/impl"
)

// How a way is sailed, or why it is not.
const (
	untold = iota
	straight
	beating
	running
)

// sailingOf tells how a way is sailed, and at which angle to the wind, by the rules for CanFetch and
// TimeTo.
func sailingOf(p impl.Polar, w complex64, way complex128) (int, int) {
	from, bearing := impl.FromOf(w), impl.Bearing(way)
	up, upOk := impl.BestUp(p, impl.WindSpeed(w))
	down, downOk := impl.BestDown(p, impl.WindSpeed(w))
	if from == -1 || bearing == -1 || !upOk || !downOk {
		return untold, 0
	}
	off := cutOf(from, bearing)
	if off < up {
		return beating, up
	}
	if off > down {
		return running, down
	}
	return straight, off
}

// partsOf tells the parts of a way that is sailed on both headings at an angle to a wind from a
// bearing: m and n in the rule for TimeTo, before they are replaced.
func partsOf(way complex128, from, angle int) (float64, float64, bool) {
	return splitOf(way, headingOf(from, -angle), headingOf(from, angle))
}

// atLeastNone replaces a number that is less than 0 by 0.
func atLeastNone(x float64) float64 {
	if x < 0 {
		return 0
	}
	return x
}

// timeOf follows the rule for TimeTo.
func timeOf(p impl.Polar, w complex64, way complex128) (int, bool) {
	how, angle := sailingOf(p, w, way)
	if how == untold {
		return 0, false
	}
	metres := impl.Length(way)
	if how != straight {
		m, n, ok := partsOf(way, impl.FromOf(w), angle)
		if !ok {
			return 0, false
		}
		metres = plusOnce(atLeastNone(m), atLeastNone(n))
	}
	return impl.SecondsFor(metres, float64(speedOf(p, impl.WindSpeed(w), angle)))
}

// checkTime checks that CanFetch and TimeTo follow their rules, and returns what TimeTo tells.
func checkTime(t *testing.T, p impl.Polar, w complex64, way complex128) (int, bool) {
	t.Helper()
	how, _ := sailingOf(p, w, way)
	if got := impl.CanFetch(p, w, way); got != (how == straight) {
		t.Fatalf("CanFetch(%v, %v, %v): %v", p, w, way, got)
	}
	want, fine := timeOf(p, w, way)
	got, ok := impl.TimeTo(p, w, way)
	if got != want || ok != fine {
		t.Fatalf("TimeTo(%v, %v, %v): %d %v, want %d %v", p, w, way, got, ok, want, fine)
	}
	return got, ok
}

func TestCanFetchAndTimeToFollowTheirRules(t *testing.T) {
	d := dice(55)
	winds, ways := append(wildWinds(300), edgeWinds()...), append(wildVectors(300), edgeVectors()...)
	var told, refused [4]int
	for _, p := range append(tackPolars(), slices.Repeat([]impl.Polar{cruiser()}, 30)...) {
		given := copyOf(p)
		for range 60 {
			w := winds[d.upTo(len(winds))]
			way := ways[d.upTo(len(ways))]
			if d.upTo(2) == 0 {
				way = wayBy(d.upTo(360), math.Abs(d.within(math.Ldexp(1e7, -d.upTo(20)))))
			}
			how, _ := sailingOf(p, w, way)
			if _, ok := checkTime(t, p, w, way); ok {
				told[how]++
			} else {
				refused[how]++
			}
		}
		if !samePolar(p, given) {
			t.Fatalf("%v has become %v", given, p)
		}
	}
	if slices.Min(told[1:]) < 200 || slices.Min(refused[:]) < 100 {
		t.Error("only few ways of one kind:", told, refused)
	}
}

// With every best angle that is near to an end, and each angle of a way to the wind, to starboard of
// it and to port: just at the best angles, a degree inside and outside, dead to windward and dead to
// leeward.
func TestCanFetchAtEachAngleToTheWind(t *testing.T) {
	ups, downs := bestAngles()
	for i, up := range ups {
		for j, down := range downs {
			p, from := peaked(up, down, 5, 4, 1), (137*i+71*j)%360
			w := windFrom(from, 10)
			for aside := -180; aside <= 180; aside++ {
				off := max(aside, -aside)
				if got, want := impl.CanFetch(p, w, wayBy(from+aside, 400)), up <= off && off <= down; got != want {
					t.Fatalf("up %d, down %d, wind from %d, %d beside it: %v", up, down, from, aside, got)
				}
			}
		}
	}
}

// splits reports whether the headings at this angle to a wind are so far apart that a way is split.
func splits(angle int) bool { return 3 <= angle && angle <= 87 || 93 <= angle && angle <= 177 }

// Whether a time is told hangs on whether a way is split, and on whether there is a speed at its angle.
func TestTimeToAtEachAngleToTheWind(t *testing.T) {
	ups, downs := bestAngles()
	for i := range max(len(ups), len(downs)) {
		up, down, from := ups[i%len(ups)], downs[i%len(downs)], 97*i%360
		p, w := peaked(up, down, 5, 4, float32(i%2)), windFrom(from, 10)
		for aside := -180; aside <= 180; aside++ {
			off := max(aside, -aside)
			speed, _ := impl.SpeedAt(p, impl.WindSpeed(w), off)
			want := speed > 0
			switch {
			case off < up:
				want = splits(up)
			case off > down:
				want = splits(down)
			}
			if _, ok := checkTime(t, p, w, wayBy(from+aside, 400)); ok != want {
				t.Fatalf("up %d, down %d, wind from %d, %d beside it: %v", up, down, from, aside, ok)
			}
		}
	}
}

// On both headings as much is made along the wind as on any other way to the place.
func TestTimeToIsThatOfTheLeastWay(t *testing.T) {
	d, p, seen := dice(56), cruiser(), [4]int{}
	for range 6000 {
		from, aside, metres := d.upTo(360), d.upTo(361)-180, 1+math.Abs(d.within(50000))
		w, way := windFrom(from, 0.5+math.Abs(d.within(20))), wayBy(from+aside, metres)
		how, angle := sailingOf(p, w, way)
		seen[how]++
		speed, _ := impl.SpeedAt(p, impl.WindSpeed(w), angle)
		radians := math.Pi / 180
		want := metres / float64(speed)
		if how != straight {
			want *= math.Cos(radians*float64(aside)) / math.Cos(radians*float64(angle))
		}
		got, ok := impl.TimeTo(p, w, way)
		if over := float64(got) - want; !ok || over < -1e-6*want-1e-6 || over > 1+1e-6*want {
			t.Fatalf("wind %v, %v metres, %d beside it: %d %v, want about %v", w, metres, aside, got, ok, want)
		}
	}
	if slices.Min(seen[1:]) < 100 {
		t.Error("only few ways of one kind:", seen)
	}
}

// Both parts of a way are fetched straight on their laylines, in as much time, but for its roundings.
func TestBothPartsOfAWayAreFetched(t *testing.T) {
	d, p := dice(57), cruiser()
	for range 2000 {
		from := d.upTo(360)
		w, way := windFrom(from, 2+math.Abs(d.within(15))), wayBy(from+d.upTo(79)-39, 100+math.Abs(d.within(20000)))
		first, second, ok := impl.TackHeadings(p, w)
		m, n, split := impl.SplitWay(way, first, second)
		if !ok || !split || m <= 0 || n <= 0 {
			t.Fatalf("%v in %v: %d %d %v, %v %v %v", way, w, first, second, ok, m, n, split)
		}
		one, two := wayBy(first, m), wayBy(second, n)
		if impl.OnLayline(p, w, one) != 1 || impl.OnLayline(p, w, two) != 2 || !impl.CanFetch(p, w, one) || !impl.CanFetch(p, w, two) || impl.CanFetch(p, w, way) {
			t.Fatalf("%v in %v: the parts are not fetched, or all of it is", way, w)
		}
		all, fine := impl.TimeTo(p, w, way)
		a, aFine := impl.TimeTo(p, w, one)
		b, bFine := impl.TimeTo(p, w, two)
		if over := a + b - all; !fine || !aFine || !bFine || over < -1 || over > 2 {
			t.Fatalf("%v in %v: %d, the parts: %d and %d", way, w, all, a, b)
		}
	}
}

// timeCase has the arguments of TimeTo, and what it tells.
type timeCase struct {
	p    impl.Polar
	w    complex64
	way  complex128
	want int
	ok   bool
}

func (c timeCase) check(t *testing.T) {
	t.Helper()
	if got, ok := checkTime(t, c.p, c.w, c.way); got != c.want || ok != c.ok {
		t.Errorf("TimeTo(%v, %v, %v): %d %v, want %d %v", c.p, c.w, c.way, got, ok, c.want, c.ok)
	}
}

func TestTimeToOfSmallNumbers(t *testing.T) {
	p := impl.Polar{Winds: []float32{4, 8}, Angles: []int{0, 59, 60, 90, 120, 121, 180}, Speeds: [][]float32{{0, 0, 4, 5, 4, 1, 1}, {0, 0, 6, 8, 7, 2, 2}}}
	for wind, want := range map[float32][2]int{2: {60, 120}, 4: {60, 120}, 6: {60, 120}, 8: {60, 120}, 50: {60, 120}} {
		up, upOk := impl.BestUp(p, wind)
		down, downOk := impl.BestDown(p, wind)
		if got := [2]int{up, down}; !upOk || !downOk || got != want {
			t.Fatalf("wind %v: %v, want %v", wind, got, want)
		}
	}
	for _, c := range []timeCase{
		// Straight, in winds of all speeds: 4 metres a second at 60 degrees, 5 at 90.
		{p, -4, 600i, 120, true}, {p, -4, -600i, 120, true}, {p, -4, 601i, 121, true}, {p, 4i, 600, 120, true}, {p, -4, wayBy(60, 399), 100, true}, {p, -4, wayBy(300, 399), 100, true}, {p, -4, wayBy(120, 399), 100, true}, {p, -4, wayBy(240, 399), 100, true}, {p, -4, wayBy(75, 449), 100, true},
		{p, -2, 600i, 240, true}, {p, -1, 600i, 480, true}, {p, -6, 600i, 93, true}, {p, -8, 600i, 75, true}, {p, -50, 600i, 75, true}, {p, -100, 600i, 75, true}, {p, -6, wayBy(60, 499), 100, true},
		// Beating: a way dead to windward is twice as long on both tacks at 60 degrees.
		{p, -4, 999, 500, true}, {p, -4, 1, 1, true}, {p, -8, 998.9, 333, true}, {p, -6, 999, 400, true}, {p, -2, 998.9, 999, true}, {p, 4, -999, 500, true}, {p, -4i, 999i, 500, true}, {p, 4i, -999i, 500, true}, {p, -4, 999 + 100i, 500, true}, {p, -4, 999 - 1500i, 500, true},
		// Running: so is one dead to leeward at 120.
		{p, -4, -999, 500, true}, {p, -8, -999, 286, true}, {p, 4, 999, 500, true}, {p, -4i, -999i, 500, true}, {p, -4, -999 + 1500i, 500, true}, {p, -4, -999 - 100i, 500, true},
		// A degree inside of the best angle the way is longer, but hardly; a degree outside it is straight.
		{p, -4, wayBy(59, 970), 250, true}, {p, -4, wayBy(301, 970), 250, true}, {p, -4, wayBy(61, 970), 241, true}, {p, -4, wayBy(299, 970), 241, true}, {p, -4, wayBy(121, 970), 250, true}, {p, -4, wayBy(239, 970), 250, true}, {p, -4, wayBy(119, 970), 241, true},
		// No way, and ways of which there is a bearing, but no Length: they count when they are split.
		{p, -4, 0, 0, false}, {p, -4, complex(negativeZero, negativeZero), 0, false}, {p, -4, 9e-7i, 0, true}, {p, -4, 1e-6i, 1, true}, {p, -4, 5e-324i, 0, true}, {p, -4, 1e-7, 1, true}, {p, -4, -1e-7, 1, true}, {p, -4, 1e-300, 1, true}, {p, -4, 5e-324, 0, true},
	} {
		c.check(t)
	}
}

// What is fetched at an angle at which there is no speed takes no time that can be told, nor what has
// no length.
func TestTimeToWhereTheSpeedIsNone(t *testing.T) {
	for _, slow := range []float32{0, float32(negativeZero)} {
		p := peaked(40, 140, 5, 4, slow)
		for off := 0; off <= 180; off++ {
			for _, bearing := range []int{200 + off, 200 - off} {
				for _, metres := range []float64{1000, 1e-9} {
					want := off <= 40 || off >= 140
					if _, ok := checkTime(t, p, windFrom(200, 10), wayBy(bearing, metres)); ok != want {
						t.Fatalf("%d degrees to the wind, %v metres: %v", off, metres, ok)
					}
				}
			}
		}
	}
	timeCase{oneRow([]int{60, 90, 120}, 5, 0, 5), -10, 100i, 0, false}.check(t)
	timeCase{oneRow([]int{60, 90, 120}, 5, math.SmallestNonzeroFloat32, 5), -10, 100i, 0, false}.check(t)
	timeCase{oneRow([]int{60, 90, 120}, 5, math.SmallestNonzeroFloat32, 5), -10, 9e-7i, 0, true}.check(t)
}

// between60And120 returns a polar of one speed from 60 to 120 degrees, which are the best angles, too.
func between60And120(speed float32) impl.Polar {
	return oneRow([]int{59, 60, 120, 121}, 0, speed, speed, 0)
}

// Ways may be so long, or boats so slow, that SecondsFor returns false.
func TestTimeToOfLongWaysAndSlowBoats(t *testing.T) {
	const edge = impl.MaxPlane
	fast, slow := between60And120(impl.MaxBoat), between60And120(0.5)
	tiny := between60And120(1e-30)
	for _, c := range []timeCase{
		{fast, -10, edge * 1i, 2000000, true}, {fast, -10, -edge * 1i, 2000000, true}, {fast, -10, complex(0, above(edge)), 0, false}, {fast, -1, edge * 1i, 0, false}, {fast, -5, edge * 1i, 4000000, true}, {fast, -2, edge * 1i, impl.MaxTime, true}, {fast, northWind(prior(2)), edge * 1i, 0, false}, {fast, northWind(next(2)), edge * 1i, impl.MaxTime, true},
		// The Length of a valid way may be greater than MaxPlane.
		{fast, -10, complex(5e7, edge), 0, false}, {fast, -10, complex(-1e7, edge), 0, false}, {fast, -10, complex(4e7, 8e7), 1788855, true},
		// So may the sum of its parts, though none of them is, nor is the way that long.
		{fast, -10, 4.9e7, 1960000, true}, {fast, -10, -4.9e7, 1960000, true}, {fast, -10, 5.1e7, 0, false}, {fast, -10, -5.1e7, 0, false}, {fast, -10, edge, 0, false}, {fast, -10, complex(edge, edge), 0, false}, {fast, -10, complex(-edge, edge), 0, false}, {fast, -10, complex(below(edge), 0), 0, false},
		{slow, -10, 5e6i, impl.MaxTime, true}, {slow, -10, complex(0, above(5e6)), 0, false}, {slow, -10, 2.49e6, 9960000, true}, {slow, -10, 2.51e6, 0, false}, {slow, -10, -2.51e6, 0, false}, {slow, -20, 2.51e6, 0, false}, {slow, -5, 1.26e6, 0, false}, {slow, -5, 1.24e6, 9920000, true},
		{tiny, -10, 1i, 0, false}, {tiny, -10, 1, 0, false}, {tiny, -10, -1, 0, false}, {tiny, -10, 1e-5, 0, false}, {tiny, -10, 1e-25, 200000, true}, {tiny, -10, 9e-7i, 0, true}, {tiny, -10, 1e-6i, 0, false},
	} {
		got, ok := checkTime(t, c.p, c.w, c.way)
		// Of a single that is rounded, and of turns that are, the last place need not be whole.
		if ok != c.ok || max(got-c.want, c.want-got) > 1 {
			t.Errorf("TimeTo(%v, %v, %v): %d %v, want %d %v", c.p, c.w, c.way, got, ok, c.want, c.ok)
		}
	}
}

// roundedSum looks for a way to windward whose parts have nearly a whole number of seconds.
func roundedSum(d *dice, p impl.Polar, speed float64) (complex64, complex128, float64, float64) {
	from, seconds := d.upTo(360), 10+d.upTo(5000)
	w := windFrom(from, 30)
	u, v := ruledTurn(headingOf(from, -40)), ruledTurn(headingOf(from, 40))
	m := float64(seconds) * speed * (0.1 + math.Abs(d.within(0.8)))
	n := float64(seconds)*speed - m
	way := complex(m*real(u)+n*real(v), m*imag(u)+n*imag(v))
	m, n, _ = partsOf(way, from, 40)
	return w, way, m, n
}

// The sum of the parts is rounded before it is divided: where it is rounded to a whole number of
// seconds, that many are told.
func TestTimeToRoundsTheSum(t *testing.T) {
	d := dice(58)
	var exact, parts, seen int
	for range 8000 {
		speed := []float64{1, 3, 0.75, 6}[d.upTo(4)]
		p := peaked(40, 150, float32(speed), 4, 0)
		w, way, m, n := roundedSum(&d, p, speed)
		got, ok := checkTime(t, p, w, way)
		if !ok || m <= 0 || n <= 0 {
			t.Fatalf("%v in %v: %d %v, of %v and %v", way, w, got, ok, m, n)
		}
		sum := new(big.Rat).Add(new(big.Rat).SetFloat64(m), new(big.Rat).SetFloat64(n))
		quotient, _ := sum.Quo(sum, new(big.Rat).SetFloat64(speed)).Float64()
		if seen++; math.Ceil(quotient) != float64(got) {
			exact++
		}
		if a, b := over(m, speed), over(n, speed); math.Ceil(plus(a, b)) != float64(got) {
			parts++
		}
	}
	if exact < 50 || parts < 50 {
		t.Error("only few sums show that they are rounded, and then divided:", exact, parts, seen)
	}
}

// By its roundings a way of a few of the least floats may bear inside of both tacks and have a part
// that is less than 0, in whose place 0 is taken.
func TestTimeToReplacesPartsThatAreLessThanNone(t *testing.T) {
	const least = math.SmallestNonzeroFloat64
	replaced, shown := 0, 0
	for _, up := range []int{20, 40, 60} {
		p := peaked(up, 150, 0.25, 0.25, 0.25)
		for x := -4; x <= 4; x++ {
			for y := -4; y <= 4; y++ {
				for from := 0; from < 360; from += 7 {
					way, w := complex(least*float64(x), least*float64(y)), windFrom(from, 10)
					got, ok := checkTime(t, p, w, way)
					how, angle := sailingOf(p, w, way)
					if how != beating && how != running {
						continue
					}
					m, n, split := partsOf(way, from, angle)
					if !split || !ok {
						t.Fatalf("%v in %v: %v %v", way, w, split, ok)
					}
					if m < 0 || n < 0 {
						replaced++
						if seconds, fine := impl.SecondsFor(plusOnce(m, n), 0.25); !fine || seconds != got {
							shown++
						}
					}
				}
			}
		}
	}
	if replaced < 50 || shown < 20 {
		t.Error("only few parts are replaced:", replaced, shown)
	}
}

func TestTimeToOfWaysThatAreNotValid(t *testing.T) {
	ways := append(brokenVectors(), 0, complex(negativeZero, 0), complex(0, negativeZero), complex(negativeZero, negativeZero))
	for _, p := range []impl.Polar{cruiser(), peaked(40, 140, 5, 4, 3), flat(evenWinds(2), []int{0, 180}, impl.MaxBoat)} {
		for _, w := range []complex64{-3, 5i, 3 - 4i, -100, windFrom(40, 12)} {
			for _, way := range ways {
				checkNoSailing(t, "not valid", p, w, way)
				if got := impl.OnLayline(p, w, way); got != 0 {
					t.Fatalf("OnLayline in %v, %v: %d", w, way, got)
				}
			}
		}
	}
}

// tacking has all that the functions for tacks tell of the same arguments.
type tacking struct {
	first, second, windward, leeward, seconds, layline int
	m, n                                               float64
	told                                               [5]bool
}

func tackingOf(p impl.Polar, w complex64, way complex128, ka, kb int) tacking {
	var r tacking
	r.first, r.second, r.told[0] = impl.TackHeadings(p, w)
	r.windward, r.leeward, r.told[1] = impl.JibeHeadings(p, w)
	r.m, r.n, r.told[2] = impl.SplitWay(way, ka, kb)
	r.told[3] = impl.CanFetch(p, w, way)
	r.seconds, r.told[4] = impl.TimeTo(p, w, way)
	r.layline = impl.OnLayline(p, w, way)
	return r
}

// Nothing is written into a polar, nor into the room behind its lists, and nothing is kept: asked
// again, the other way round, all is told alike.
func TestTacksAreToldAlikeAgain(t *testing.T) {
	type question struct {
		p   impl.Polar
		w   complex64
		way complex128
	}
	var questions []question
	broken := roomy()
	broken.Winds = broken.Winds[:3]
	for _, p := range []impl.Polar{roomy(), broken, cruiser(), peaked(40, 150, 5, 4, 0), oneSided()["up"], oneSided()["down"], {}} {
		for _, w := range []complex64{-4, 3 + 4i, -100 - 100i, 0, complex(float32(math.NaN()), 1)} {
			for _, way := range []complex128{500, 500i, -500, -20 - 30i, 0, 1e8 + 1e8i, complex(2e8, 1)} {
				questions = append(questions, question{p, w, way})
			}
		}
	}
	given := make([]impl.Polar, len(questions))
	for i, q := range questions {
		given[i] = copyOf(allOf(q.p))
	}
	var first []tacking
	for i, q := range questions {
		first = append(first, tackingOf(q.p, q.w, q.way, 30*i, 47*i))
	}
	for i, q := range slices.Backward(questions) {
		if again := tackingOf(q.p, q.w, q.way, 30*i, 47*i); again != first[i] {
			t.Fatalf("%v: %v, and again %v", q, first[i], again)
		}
		if !samePolar(allOf(q.p), given[i]) {
			t.Fatalf("%v has become %v", given[i], allOf(q.p))
		}
	}
}
