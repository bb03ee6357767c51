package tests

import (
	"fmt"
	"math"
	"math/big"
	"slices"
	"testing"

	"loop.example/g03321/impl"
)

// windFrom returns a wind that blows from a bearing.
func windFrom(bearing int, speed float64) complex64 {
	turn := impl.Turn(bearing)
	return complex(float32(-speed*real(turn)), float32(-speed*imag(turn)))
}

// wayBy returns a way with a bearing.
func wayBy(bearing int, metres float64) complex128 {
	turn := impl.Turn(bearing)
	return complex(metres*real(turn), metres*imag(turn))
}

// northWind returns a wind from the north whose speed is to the last bit a single from 1e-6 on.
func northWind(speed float32) complex64 { return complex(-speed, 0) }

// peaked returns a polar of one wind, of the speed 10, whose best angles are up and down. A degree
// beside them the speed is 0, and slow from two degrees on between both, unless these are too near.
func peaked(up, down int, upSpeed, downSpeed, slow float32) impl.Polar {
	speeds := map[int]float32{0: 0, 180: 0}
	for _, angle := range []int{up - 1, up + 1, down - 1, down + 1} {
		if 0 <= angle && angle <= 180 {
			speeds[angle] = 0
		}
	}
	if up+2 < 90 && down-2 > 91 {
		speeds[up+2], speeds[down-2] = slow, slow
	}
	speeds[up], speeds[down] = upSpeed, downSpeed
	p := impl.Polar{Winds: []float32{10}, Speeds: [][]float32{nil}}
	for angle := range 181 {
		if speed, ok := speeds[angle]; ok {
			p.Angles, p.Speeds[0] = append(p.Angles, angle), append(p.Speeds[0], speed)
		}
	}
	return p
}

// bestAngles returns all best angles up that are near to an end, and some between, and the same down.
func bestAngles() ([]int, []int) {
	return []int{0, 1, 2, 3, 4, 30, 40, 45, 60, 86, 87, 88, 89, 90}, []int{91, 92, 93, 94, 120, 135, 150, 176, 177, 178, 179, 180}
}

// tackPolars returns valid polars of all kinds, among them ones with all kinds of best angles.
func tackPolars() []impl.Polar {
	list := goodPolars()
	ups, downs := bestAngles()
	for i := range max(len(ups), len(downs)) {
		list = append(list, peaked(ups[i%len(ups)], downs[i%len(downs)], 5, 4, 0.01))
	}
	return list
}

// oneSided returns valid polars by the best angle that they lack.
func oneSided() map[string]impl.Polar {
	return map[string]impl.Polar{
		"up": oneRow([]int{90, 91, 180}, 0, 5, 5), "up, but down 91": oneRow([]int{90, 91, 92}, 0, 5, 0),
		"down": oneRow([]int{0, 60, 90, 91}, 3, 4, 0, 0), "down, but up 0": oneRow([]int{0, 1}, 5, 0), "down, but up 90": oneRow([]int{89, 90, 91}, 0, 5, 0),
		"both": oneRow([]int{179}, 0), "both, of -0": oneRow([]int{0, 180}, float32(negativeZero), float32(negativeZero)),
	}
}

// calmWinds returns winds that have no bearing: none at all, and ones that are not valid.
func calmWinds() []complex64 {
	z := float32(negativeZero)
	return append(brokenWinds(), 0, complex(z, 0), complex(0, z), complex(z, z))
}

// headingOf returns the number in the range 0 to 359 that differs by a multiple of 360 from a
// bearing turned clockwise by an angle.
func headingOf(from, angle int) int {
	return degrees(new(big.Int).Add(big.NewInt(int64(from)), big.NewInt(int64(angle))))
}

// headingPair has TackHeadings and BestUp, or JibeHeadings and BestDown.
type headingPair struct {
	headings func(impl.Polar, complex64) (int, int, bool)
	best     func(impl.Polar, float32) (int, bool)
}

// headingPairs returns both pairs.
func headingPairs() map[string]headingPair {
	return map[string]headingPair{"tack": {impl.TackHeadings, impl.BestUp}, "jibe": {impl.JibeHeadings, impl.BestDown}}
}

// checkHeadings checks that both tacks, and both jibes, lie at the best angle to the wind, and returns
// whether there are both tacks, and whether there are both jibes.
func checkHeadings(t *testing.T, p impl.Polar, w complex64) (bool, bool) {
	t.Helper()
	told := map[string]bool{}
	for name, pair := range headingPairs() {
		first, second, ok := pair.headings(p, w)
		angle, fine := pair.best(p, impl.WindSpeed(w))
		from := impl.FromOf(w)
		if fine = fine && from != -1; !fine {
			if ok || first != 0 || second != 0 {
				t.Fatalf("%s of %v in %v: %d %d %v, but there is none", name, p, w, first, second, ok)
			}
			continue
		}
		if !ok || first != headingOf(from, -angle) || second != headingOf(from, angle) {
			t.Fatalf("%s of %v in %v: %d %d %v, want %d to both sides of %d", name, p, w, first, second, ok, angle, from)
		}
		if cutOf(first, from) != angle || cutOf(second, from) != angle {
			t.Fatalf("%s of %v in %v: %d and %d do not lie %d degrees beside %d", name, p, w, first, second, angle, from)
		}
		if side := windSideOf(first, from); angle%180 != 0 && (side != 1 || windSideOf(second, from) != -1) {
			t.Fatalf("%s of %v in %v: %d and %d have the wind from %d on the wrong sides", name, p, w, first, second, from)
		}
		told[name] = true
	}
	return told["tack"], told["jibe"]
}

func TestBothTacksAndJibesLieAtTheBestAngle(t *testing.T) {
	d, winds := dice(50), append(wildWinds(300), edgeWinds()...)
	var both, none int
	for _, p := range append(tackPolars(), slices.Repeat([]impl.Polar{cruiser()}, 20)...) {
		given := copyOf(p)
		for range 25 {
			tacks, jibes := checkHeadings(t, p, winds[d.upTo(len(winds))])
			if tacks && jibes {
				both++
			}
			if !tacks && !jibes {
				none++
			}
		}
		if !samePolar(p, given) {
			t.Fatalf("%v has become %v", given, p)
		}
	}
	if both < 300 || none < 300 {
		t.Error("only few polars have tacks and jibes, or neither:", both, none)
	}
}

// For a wind from each bearing the headings pass 0 and 359 with all kinds of best angles.
func TestHeadingsInWindsFromAllBearings(t *testing.T) {
	ups, downs := bestAngles()
	for from := range 360 {
		up, down := ups[from%len(ups)], downs[from%len(downs)]
		for _, p := range []impl.Polar{cruiser(), peaked(up, 150, 5, 4, 0), peaked(40, down, 5, 4, 0)} {
			w := windFrom(from, 8)
			if impl.FromOf(w) != from {
				t.Fatalf("%v is not from %d", w, from)
			}
			if tacks, jibes := checkHeadings(t, p, w); !tacks || !jibes {
				t.Fatalf("%v has no tacks, or no jibes, in a wind from %d: %v %v", p, from, tacks, jibes)
			}
		}
	}
}

func TestHeadingsOfSmallNumbers(t *testing.T) {
	type headings [2]int
	cases := []struct {
		from, up, down int
		tack, jibe     headings
	}{
		{0, 40, 150, headings{320, 40}, headings{210, 150}}, {90, 40, 150, headings{50, 130}, headings{300, 240}}, {180, 45, 135, headings{135, 225}, headings{45, 315}}, {270, 45, 135, headings{225, 315}, headings{135, 45}},
		// About 0 and 359.
		{39, 40, 150, headings{359, 79}, headings{249, 189}}, {40, 40, 150, headings{0, 80}, headings{250, 190}}, {41, 40, 150, headings{1, 81}, headings{251, 191}}, {319, 40, 150, headings{279, 359}, headings{169, 109}}, {320, 40, 150, headings{280, 0}, headings{170, 110}}, {321, 40, 150, headings{281, 1}, headings{171, 111}},
		{359, 40, 150, headings{319, 39}, headings{209, 149}}, {150, 60, 150, headings{90, 210}, headings{0, 300}}, {149, 60, 150, headings{89, 209}, headings{359, 299}}, {210, 60, 150, headings{150, 270}, headings{60, 0}}, {209, 60, 150, headings{149, 269}, headings{59, 359}},
		// Best angles at their ends.
		{0, 0, 180, headings{0, 0}, headings{180, 180}}, {77, 0, 180, headings{77, 77}, headings{257, 257}}, {180, 0, 180, headings{180, 180}, headings{0, 0}}, {359, 0, 179, headings{359, 359}, headings{180, 178}}, {0, 1, 179, headings{359, 1}, headings{181, 179}},
		{0, 90, 91, headings{270, 90}, headings{269, 91}}, {90, 90, 91, headings{0, 180}, headings{359, 181}}, {270, 90, 91, headings{180, 0}, headings{179, 1}}, {91, 90, 180, headings{1, 181}, headings{271, 271}}, {269, 90, 91, headings{179, 359}, headings{178, 0}},
	}
	for _, c := range cases {
		p, w := peaked(c.up, c.down, 5, 4, 0), windFrom(c.from, 6)
		first, second, ok := impl.TackHeadings(p, w)
		if got := (headings{first, second}); !ok || got != c.tack {
			t.Errorf("tacks at %d to a wind from %d: %v %v, want %v", c.up, c.from, got, ok, c.tack)
		}
		first, second, ok = impl.JibeHeadings(p, w)
		if got := (headings{first, second}); !ok || got != c.jibe {
			t.Errorf("jibes at %d to a wind from %d: %v %v, want %v", c.down, c.from, got, ok, c.jibe)
		}
	}
}

// Winds that are slower than the polar's first one, at each of its own, between two, and faster than
// its last one have best angles of their own.
func TestHeadingsInWindsOfAllSpeeds(t *testing.T) {
	p := cruiser()
	for speed, want := range map[float32][2]int{0.01: {50, 143}, 1: {50, 143}, 3: {50, 143}, 4: {44, 145}, 6: {40, 155}, 8: {40, 172}, 10: {40, 173}, 16: {40, 175}, next(16): {40, 175}, 50: {40, 175}, 100: {40, 175}} {
		for _, w := range []complex64{complex(-speed, 0), complex(0, -speed), complex(speed, 0), complex(0, speed)} {
			from := impl.FromOf(w)
			first, second, ok := impl.TackHeadings(p, w)
			if !ok || first != headingOf(from, -want[0]) || second != headingOf(from, want[0]) {
				t.Errorf("tacks in %v: %d %d %v, want %d to both sides of %d", w, first, second, ok, want[0], from)
			}
			first, second, ok = impl.JibeHeadings(p, w)
			if !ok || first != headingOf(from, -want[1]) || second != headingOf(from, want[1]) {
				t.Errorf("jibes in %v: %d %d %v, want %d to both sides of %d", w, first, second, ok, want[1], from)
			}
		}
	}
	for _, p := range goodPolars() {
		for _, speed := range airSpeeds(p) {
			checkHeadings(t, p, northWind(speed))
			checkHeadings(t, p, -northWind(speed))
		}
	}
}

// checkNoSailing checks that a polar tells nothing of a wind and a way.
func checkNoSailing(t *testing.T, name string, p impl.Polar, w complex64, way complex128) {
	t.Helper()
	if impl.CanFetch(p, w, way) {
		t.Fatalf("%s: CanFetch in %v, %v", name, w, way)
	}
	if got, ok := impl.TimeTo(p, w, way); ok || got != 0 {
		t.Fatalf("%s: TimeTo in %v, %v: %d %v", name, w, way, got, ok)
	}
}

// checkNoHeadings checks that a polar has no tacks in a wind, so that no way is on a layline and none
// can be sailed; and no jibes, unless these are told.
func checkNoHeadings(t *testing.T, name string, p impl.Polar, w complex64, jibes bool) {
	t.Helper()
	if first, second, ok := impl.TackHeadings(p, w); ok || first != 0 || second != 0 {
		t.Fatalf("%s: TackHeadings in %v: %d %d %v", name, w, first, second, ok)
	}
	if first, second, ok := impl.JibeHeadings(p, w); !jibes && (ok || first != 0 || second != 0) {
		t.Fatalf("%s: JibeHeadings in %v: %d %d %v", name, w, first, second, ok)
	}
	// The headings that come with the false are 0, which is the bearing of the first way.
	for _, way := range []complex128{1000, 1000i, -1000, 700 - 700i, 0, complex(math.NaN(), 1)} {
		if got := impl.OnLayline(p, w, way); got != 0 {
			t.Fatalf("%s: OnLayline in %v, %v: %d", name, w, way, got)
		}
		checkNoSailing(t, name, p, w, way)
	}
}

func TestWindsWithoutABearingHaveNoHeadings(t *testing.T) {
	for _, p := range []impl.Polar{cruiser(), peaked(0, 180, 5, 4, 0), peaked(40, 150, 50, 50, 1), flat(evenWinds(3), []int{0, 180}, 5)} {
		for _, w := range calmWinds() {
			checkNoHeadings(t, "calm", p, w, false)
		}
	}
}

// A wind may have a bearing, but a speed of 0, or one that no polar knows.
func TestWindsWithABearingThatHaveNoHeadings(t *testing.T) {
	const least = math.SmallestNonzeroFloat32
	for _, p := range tackPolars() {
		for _, w := range []complex64{least, -least * 1i, 9e-7, -9e-7i, 6e-7 - 6e-7i, 100 + 100i, -100 + 100i, 100 - 1i, complex(-100, next(0.1)), -80 - 70i, complex(70.8, 70.7)} {
			if speed := impl.WindSpeed(w); impl.FromOf(w) == -1 || speed != 0 && speed <= impl.MaxSpeed {
				t.Fatalf("%v: %d, %v", w, impl.FromOf(w), speed)
			}
			checkNoHeadings(t, "too slow or fast", p, w, false)
		}
	}
	// The speed is narrowed before it is compared with the limit.
	for _, w := range []complex64{complex(-100, 0.01), complex(0.01, 100)} {
		if math.Hypot(float64(real(w)), float64(imag(w))) <= 100 {
			t.Fatalf("%v is not faster than the limit", w)
		}
		if tacks, jibes := checkHeadings(t, cruiser(), w); !tacks || !jibes {
			t.Errorf("%v: %v %v", w, tacks, jibes)
		}
	}
}

func TestHeadingsOfPolarsWithoutABestAngle(t *testing.T) {
	wants := map[string][2]bool{"up": {false, true}, "up, but down 91": {false, true}, "down": {true, false}, "down, but up 0": {true, false}, "down, but up 90": {true, false}, "both": {false, false}, "both, of -0": {false, false}}
	for name, p := range oneSided() {
		for from := 0; from < 360; from += 15 {
			w := windFrom(from, 7)
			tacks, jibes := checkHeadings(t, p, w)
			if got := [2]bool{tacks, jibes}; got != wants[name] {
				t.Fatalf("no best angle %s: %v, want %v", name, got, wants[name])
			}
			if !tacks {
				checkNoHeadings(t, name, p, w, jibes)
			}
			for bearing := range 360 {
				checkNoSailing(t, name, p, w, wayBy(bearing, 1000))
			}
		}
	}
}

func TestHeadingsOfPolarsThatAreNotValid(t *testing.T) {
	for name, p := range brokenPolars() {
		given := copyOf(p)
		for _, w := range []complex64{-3, -5i, 3 + 4i, windFrom(40, 2), 100, 0, complex(float32(math.NaN()), 1)} {
			checkNoHeadings(t, name, p, w, false)
		}
		if !samePolar(p, given) {
			t.Fatalf("%s: %v has become %v", name, given, p)
		}
	}
}

// laylineOf follows the rule for OnLayline.
func laylineOf(p impl.Polar, w complex64, way complex128) int {
	first, second, ok := impl.TackHeadings(p, w)
	bearing := impl.Bearing(way)
	if ok && bearing == first {
		return 1
	}
	if ok && bearing == second {
		return 2
	}
	return 0
}

func TestOnLaylineFollowsItsRule(t *testing.T) {
	ups, downs := bestAngles()
	for i, up := range ups {
		p := peaked(up, downs[i%len(downs)], 5, 4, 0)
		for from := i; from < 360; from += 23 {
			w := windFrom(from, 9)
			for aside := -180; aside < 180; aside++ {
				way := wayBy(from+aside, 1+float64(i)*1000)
				want := 0
				switch aside {
				case -up:
					want = 1
				case up:
					want = 2
				}
				if got := impl.OnLayline(p, w, way); got != want || got != laylineOf(p, w, way) {
					t.Fatalf("up %d, wind from %d, %d degrees beside: %d, want %d", up, from, aside, got, want)
				}
			}
		}
	}
	d, winds, ways, seen := dice(51), wildWinds(200), append(wildVectors(300), edgeVectors()...), [3]int{}
	for range 4000 {
		w, way := winds[d.upTo(len(winds))], ways[d.upTo(len(ways))]
		got := impl.OnLayline(cruiser(), w, way)
		if want := laylineOf(cruiser(), w, way); got != want {
			t.Fatalf("OnLayline in %v, %v: %d, want %d", w, way, got, want)
		}
		seen[got]++
	}
	if slices.Min(seen[:]) < 5 {
		t.Error("only few ways on a layline:", seen)
	}
}

func TestOnLaylineOfSmallNumbers(t *testing.T) {
	p, z := peaked(45, 135, 5, 4, 0), negativeZero
	cases := []struct {
		w    complex64
		way  complex128
		want int
	}{
		{-4, 1 + 1i, 2}, {-4, 1 - 1i, 1}, {-4, 1e8 + 1e8i, 2}, {-4, 1e8 - 1e8i, 1}, {-4, -1 + 1i, 0}, {-4, 1, 0}, {-4, 1i, 0}, {-4, 1000 + 1010i, 2}, {-4, 1000 + 1030i, 0},
		{4, -1 - 1i, 2}, {4, -1 + 1i, 1}, {-4 - 4i, 5i, 2}, {-4 - 4i, 5, 1}, {-4 - 4i, complex(z, 5), 2}, {-4 - 4i, complex(5, z), 1}, {-4 - 4i, complex(5e-324, 0), 1}, {4 + 4i, -5i, 2}, {4 + 4i, complex(-5, z), 1}, {-4 + 4i, 5, 2}, {-4 + 4i, -5i, 1}, {-4 + 4i, 1e-9, 2},
		// Ways without a bearing.
		{-4 - 4i, 0, 0}, {-4 - 4i, complex(z, z), 0}, {-4, complex(z, 0), 0}, {-4 - 4i, complex(above(1e8), 0), 0}, {-4 - 4i, complex(below(1e8), 0), 1}, {-4 - 4i, complex(math.NaN(), 0), 0}, {-4 - 4i, complex(math.Inf(1), 0), 0}, {-4 - 4i, complex(5, math.NaN()), 0},
	}
	for _, c := range cases {
		if got := impl.OnLayline(p, c.w, c.way); got != c.want {
			t.Errorf("OnLayline in %v, %v: %d, want %d", c.w, c.way, got, c.want)
		}
	}
	// Both tacks are one if the best angle is 0.
	for from := range 360 {
		if got := impl.OnLayline(peaked(0, 135, 5, 4, 0), windFrom(from, 4), wayBy(from, 70)); got != 1 {
			t.Errorf("wind from %d: %d", from, got)
		}
	}
}

func TestWaysThatAreNotValidAreOnNoLayline(t *testing.T) {
	for _, p := range tackPolars() {
		for _, w := range []complex64{-3, 3 - 4i, -100i} {
			for _, way := range brokenVectors() {
				if got := impl.OnLayline(p, w, way); got != 0 {
					t.Fatalf("OnLayline in %v, %v: %d", w, way, got)
				}
			}
		}
	}
}

// A place on a layline can be fetched, if there is a best angle down, too.
func TestAPlaceOnALaylineCanBeFetched(t *testing.T) {
	seen, sides := map[string]int{}, [3]int{}
	look := func(p impl.Polar, w complex64, way complex128) {
		t.Helper()
		side := impl.OnLayline(p, w, way)
		_, down := impl.BestDown(p, impl.WindSpeed(w))
		sides[side]++
		if side == 0 {
			return
		}
		seen[fmt.Sprint("best angle down: ", down)]++
		if impl.CanFetch(p, w, way) != down {
			t.Fatalf("%v in %v, %v: on a layline, but CanFetch is %v", p, w, way, !down)
		}
	}
	d, winds := dice(52), append(wildWinds(200), edgeWinds()...)
	for _, p := range append(tackPolars(), oneSided()["down"], oneSided()["down, but up 0"], oneSided()["down, but up 90"], oneRow([]int{30, 60, 80}, 1, 5, 0)) {
		for range 60 {
			w := winds[d.upTo(len(winds))]
			metres := math.Abs(d.within(math.Ldexp(impl.MaxPlane, -d.upTo(40))))
			look(p, w, wayBy(d.upTo(360), metres))
			if first, second, ok := impl.TackHeadings(p, w); ok {
				look(p, w, wayBy(first, metres))
				look(p, w, wayBy(second, metres))
			}
		}
	}
	if sides[1] < 500 || sides[2] < 500 || seen["best angle down: true"] < 500 || seen["best angle down: false"] < 100 {
		t.Error("only few places on a layline:", sides, seen)
	}
}
