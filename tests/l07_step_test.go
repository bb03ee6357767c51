package tests

import (
	"math"
	"slices"
	"testing"

	"loop.example/g03321/impl"
)

// legTimes returns seconds that a leg can have: those about one and two pieces, and at both ends.
func legTimes() []int {
	return []int{0, 1, 2, 59, impl.Piece - 1, impl.Piece, impl.Piece + 1, 2*impl.Piece - 1, 2 * impl.Piece, 2*impl.Piece + 1, 1800, 3600, 10001, impl.MaxLeg - 1, impl.MaxLeg}
}

// brokenLegTimes returns seconds that no leg can have.
func brokenLegTimes() []int {
	return []int{-1, -2, -impl.Piece, -impl.MaxLeg, impl.MaxLeg + 1, impl.MaxLeg + 2, 2 * impl.MaxLeg, 1 << 32, 1<<32 + 600, -1 << 32, math.MinInt, math.MinInt + 600, math.MaxInt}
}

// legBy returns a leg.
func legBy(heading int, speed float32, seconds int) impl.Leg {
	return impl.Leg{Heading: heading, Speed: speed, Seconds: seconds}
}

// wildLegs returns n legs that look random, none of which has more than so many seconds.
func wildLegs(d *dice, n, most int) []impl.Leg {
	headings, speeds, times := shownHeadings(), boatSpeeds(30), legTimes()
	var legs []impl.Leg
	for range n {
		seconds := times[d.upTo(len(times))]
		if seconds > most || d.upTo(2) == 0 {
			seconds = d.upTo(most + 1)
		}
		legs = append(legs, legBy(headings[d.upTo(len(headings))], speeds[d.upTo(len(speeds))], seconds))
	}
	return legs
}

// sameLegs reports whether two lists of legs are the same.
func sameLegs(a, b []impl.Leg) bool {
	return slices.EqualFunc(a, b, func(g, h impl.Leg) bool {
		return g.Heading == h.Heading && sameSingle(g.Speed, h.Speed) && g.Seconds == h.Seconds
	})
}

// alikeLegs returns n equal legs.
func alikeLegs(leg impl.Leg, n int) []impl.Leg {
	return slices.Repeat([]impl.Leg{leg}, n)
}

// brokenLegs returns legs that are not valid.
func brokenLegs() []impl.Leg {
	var list []impl.Leg
	for _, speed := range brokenBoatSpeeds() {
		list = append(list, legBy(0, speed, 0), legBy(90, speed, 600))
	}
	for _, seconds := range brokenLegTimes() {
		list = append(list, legBy(0, 0, seconds), legBy(-10, 4, seconds))
	}
	return append(list, legBy(0, -1, -1))
}

// stepOf follows the rule for StepOn, where all arguments are valid.
func stepOf(pos complex128, v complex64, seconds int) (complex128, bool) {
	w, n := complex128(v), float64(seconds)
	pos = complex(plus(real(pos), times(real(w), n)), plus(imag(pos), times(imag(w), n)))
	if !impl.VectorOk(pos) {
		return 0, false
	}
	return pos, true
}

// positions returns valid positions of all kinds.
func positions() []complex128 {
	return append(append(wildVectors(300), edgeVectors()...), 0, 1000-500i, 1e8-1e5, -1e8i+3e4i)
}

func TestLimitsOfLegs(t *testing.T) {
	if impl.MaxLegs != 50 || impl.MaxLeg != 100000 || impl.Piece != 600 {
		t.Error("limits:", impl.MaxLegs, impl.MaxLeg, impl.Piece)
	}
}

func TestLegOkAtItsEdges(t *testing.T) {
	for _, heading := range edgeDegrees() {
		for _, speed := range boatSpeeds(10) {
			for _, seconds := range legTimes() {
				if leg := legBy(heading, speed, seconds); !impl.LegOk(leg) {
					t.Fatal("not valid:", leg)
				}
			}
		}
	}
	for _, leg := range brokenLegs() {
		if impl.LegOk(leg) {
			t.Error("valid:", leg)
		}
	}
	if !impl.LegOk(impl.Leg{}) {
		t.Error("the zero value is not valid")
	}
}

func TestStepOnFollowsItsRule(t *testing.T) {
	places, winds, seconds := positions(), append(append(wildWinds(300), edgeWinds()...), eighthWinds(100)...), legTimes()
	d := dice(33)
	beyond, narrow := 0, 0
	for range 40000 {
		pos, v, n := places[d.upTo(len(places))], winds[d.upTo(len(winds))], seconds[d.upTo(len(seconds))]
		if d.upTo(3) == 0 {
			n = d.upTo(impl.MaxLeg + 1)
		}
		want, fine := stepOf(pos, v, n)
		if got, ok := impl.StepOn(pos, v, n); ok != fine || !sameComplex(got, want) {
			t.Fatalf("StepOn(%v, %v, %d): %v %v, want %v %v", pos, v, n, got, ok, want, fine)
		}
		if !fine {
			beyond++
		} else if real(pos)+float64(times32(real(v), float32(n))) != real(want) {
			narrow++
		}
	}
	if beyond < 1000 || narrow < 1000 {
		t.Error("only few steps lead out of the plane, or show that the product is wide:", beyond, narrow)
	}
}

func TestStepOnOfSmallNumbers(t *testing.T) {
	const edge = impl.MaxPlane
	z, z32, least := negativeZero, float32(negativeZero), float32(math.SmallestNonzeroFloat32)
	cases := []struct {
		pos     complex128
		v       complex64
		seconds int
		want    complex128
		ok      bool
	}{
		{0, 1 + 2i, 10, 10 + 20i, true}, {100 - 50i, -1.5 + 0.25i, 4, 94 - 49i, true}, {100 - 50i, 0, impl.MaxLeg, 100 - 50i, true}, {3, 100 - 100i, impl.MaxLeg, 10000003 - 10000000i, true}, {7i, 100i, 1, 107i, true},
		{0, 0.1, 3, complex(float64(float32(0.1))*3, 0), true}, {0, complex(prior(1), next(1)), 99999, complex(99999*(1-0x1p-24), 99999*(1+0x1p-23)), true},
		// A sum of 0 and -0 is 0, and only one of -0 and -0 is -0.
		{complex(z, z), 0, 5, 0, true}, {complex(z, z), complex(z32, z32), 5, complex(z, z), true}, {0, complex(z32, z32), 5, 0, true}, {complex(z, z), 1 - 1i, 0, complex(0, z), true}, {complex(z, 0), complex(-2, z32), 0, complex(z, 0), true},
		{complex(5e-324, -5e-324), 1, 0, complex(5e-324, -5e-324), true}, {complex(5e-324, 0), complex(least, -least), 1, complex(float64(least), -float64(least)), true},
		// On the edge of the plane, and one float beyond.
		{edge, 0, 7, edge, true}, {edge - 1i*edge, -1 + 1i, 9, edge - 9 - (edge-9)*1i, true}, {edge - 1, 1, 1, edge, true}, {edge - 1, 1, 2, 0, false}, {edge, 1, 0, edge, true}, {edge, 1, 1, 0, false},
		{-edge, -1, 1, 0, false}, {-edge, 1, 1, 1 - edge, true}, {edge * 1i, 1i, 1, 0, false}, {edge * -1i, -1i, 1, 0, false}, {edge * -1i, 1i, 1, (1 - edge) * 1i, true}, {edge * 1i, 5, 2, 10 + edge*1i, true}, {edge, 1i, 3, edge + 3i, true},
		{edge, 7e-9, 1, edge, true}, {edge, 8e-9, 1, 0, false}, {edge, complex(least, 0), impl.MaxLeg, edge, true}, {complex(below(edge), 0), 1.5e-8, 1, edge, true}, {complex(0, -edge), complex(0, -7e-9), 1, complex(0, -edge), true}, {complex(0, -edge), complex(0, -8e-9), 1, 0, false},
		{edge - 1e7, 100, impl.MaxLeg, edge, true}, {edge - 1e7, 100, impl.MaxLeg - 1, edge - 100, true}, {complex(above(edge-1e7), 0), 100, impl.MaxLeg, 0, false},
	}
	for _, c := range cases {
		if got, ok := impl.StepOn(c.pos, c.v, c.seconds); ok != c.ok || !sameComplex(got, c.want) {
			t.Errorf("StepOn(%v, %v, %d): %v %v, want %v %v", c.pos, c.v, c.seconds, got, ok, c.want, c.ok)
		}
	}
}

// A step of no seconds leaves a position as it is, but that -0 may become 0.
func TestStepOfNoSeconds(t *testing.T) {
	for _, pos := range positions() {
		for _, v := range edgeWinds() {
			if got, ok := impl.StepOn(pos, v, 0); !ok || got != pos {
				t.Fatalf("StepOn(%v, %v, 0): %v %v", pos, v, got, ok)
			}
		}
	}
}

func TestStepOnOfWhatIsNotValid(t *testing.T) {
	refuse := func(pos complex128, v complex64, seconds int) {
		t.Helper()
		if got, ok := impl.StepOn(pos, v, seconds); ok || !sameComplex(got, 0) {
			t.Fatalf("StepOn(%v, %v, %d): %v %v", pos, v, seconds, got, ok)
		}
	}
	for _, seconds := range append(legTimes(), brokenLegTimes()...) {
		for _, pos := range brokenVectors() {
			refuse(pos, 0, seconds)
			refuse(pos, 1-2i, seconds)
			// This would lead back into the plane.
			refuse(pos, complex(float32(math.Copysign(100, -real(pos))), float32(math.Copysign(100, -imag(pos)))), seconds)
		}
		for _, v := range brokenWinds() {
			refuse(0, v, seconds)
			refuse(-1e6+1e6i, v, seconds)
		}
	}
	for _, seconds := range brokenLegTimes() {
		for _, pos := range []complex128{0, 5 + 7i, -1e8 + 1e8i} {
			for _, v := range []complex64{0, 1, 0.5 - 2i, 100 - 100i} {
				refuse(pos, v, seconds)
			}
		}
	}
}
