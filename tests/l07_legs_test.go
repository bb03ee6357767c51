package tests

import (
	"math"
	"slices"
	"testing"

	"loop.example/g03321/impl"
)

// runOf follows the rule for RunLegs, where all arguments are valid.
func runOf(pos complex128, legs []impl.Leg, stream complex64) (complex128, bool) {
	for _, leg := range legs {
		ground := groundOf(leg.Heading, leg.Speed, stream)
		next, ok := stepOf(pos, ground, leg.Seconds)
		if !ok || !impl.VelocityOk(ground) {
			return 0, false
		}
		pos = next
	}
	return pos, true
}

// legStreams returns streams that carry a boat, some of them so fast that a boat can be too fast over
// ground.
func legStreams() []complex64 {
	return append(append(wildWinds(100), eighthWinds(20)...), 0, 1, 50, complex(next(50), 0), -50, 70i, 99-99i, -100+100i, complex(0, prior(-50)), 0.5-1.25i)
}

func TestRunLegsFollowsItsRule(t *testing.T) {
	d, places, streams := dice(34), positions(), legStreams()
	led, failed, order := 0, 0, 0
	for range 4000 {
		pos, stream := places[d.upTo(len(places))], streams[d.upTo(len(streams))]
		legs := wildLegs(&d, d.upTo(6)*d.upTo(11), impl.MaxLeg)
		given := slices.Clone(legs)
		want, fine := runOf(pos, legs, stream)
		if got, ok := impl.RunLegs(pos, legs, stream); ok != fine || !sameComplex(got, want) {
			t.Fatalf("RunLegs(%v, %v, %v): %v %v, want %v %v", pos, legs, stream, got, ok, want, fine)
		}
		if !sameLegs(legs, given) {
			t.Fatalf("%v has become %v", given, legs)
		}
		if !fine {
			failed++
			continue
		}
		led++
		slices.Reverse(legs)
		if other, ok := runOf(pos, legs, stream); ok && !sameComplex(other, want) {
			order++
		}
	}
	if led < 1000 || failed < 200 || order < 300 {
		t.Error("only few legs lead somewhere, or nowhere, or show their order:", led, failed, order)
	}
}

func TestRunLegsOfSmallNumbers(t *testing.T) {
	z, z32 := negativeZero, float32(negativeZero)
	cases := []struct {
		pos    complex128
		legs   []impl.Leg
		stream complex64
		want   complex128
	}{
		{0, []impl.Leg{legBy(0, 2, 100)}, 1, 300}, {0, []impl.Leg{legBy(0, 2, 100)}, -3i, 200 - 300i}, {5 - 7i, []impl.Leg{legBy(0, 2, 100), legBy(360, 3, 10)}, 0, 235 - 7i}, {10, []impl.Leg{legBy(0, 0, 100), legBy(77, 0, 1)}, 0.5 + 1i, 60.5 + 101i},
		{0, []impl.Leg{legBy(0, 4, 0), legBy(0, 4, 1), legBy(0, 4, impl.MaxLeg)}, 0, 4 * (impl.MaxLeg + 1)}, {0, []impl.Leg{legBy(-720, impl.MaxBoat, impl.MaxLeg)}, 50 - 100i, 1e7 - 1e7i},
		{3 - 2i, nil, 0, 3 - 2i}, {3 - 2i, []impl.Leg{}, 100 + 100i, 3 - 2i}, {1e8 - 1e8i, nil, 1, 1e8 - 1e8i}, {complex(z, z), nil, 1, complex(z, z)}, {complex(5e-324, z), []impl.Leg{}, -1, complex(5e-324, z)},
		{complex(z, z), []impl.Leg{legBy(0, 0, 9)}, complex(z32, z32), 0}, {complex(z, z), []impl.Leg{legBy(0, z32, 9)}, complex(z32, z32), complex(z, z)}, {complex(z, z), []impl.Leg{legBy(225, 0, 9)}, complex(z32, z32), complex(z, z)},
		{0, alikeLegs(legBy(0, 1, impl.MaxLeg), impl.MaxLegs), 1i, impl.MaxLegs * impl.MaxLeg * (1 + 1i)}, {7i, alikeLegs(impl.Leg{}, impl.MaxLegs), 100, 7i}, {0, alikeLegs(legBy(0, 0, 3), impl.MaxLegs-1), 0.25, 36.75},
	}
	for _, c := range cases {
		if got, ok := impl.RunLegs(c.pos, c.legs, c.stream); !ok || !sameComplex(got, c.want) {
			t.Errorf("RunLegs(%v, %v, %v): %v %v, want %v", c.pos, c.legs, c.stream, got, ok, c.want)
		}
	}
	got, ok := impl.RunLegs(0, []impl.Leg{legBy(30, 5, 1000), legBy(120, 4, 500), legBy(-90, 2, 250)}, 0)
	want := complex(5000*math.Cos(math.Pi/6)-1000, 2500+2000*math.Cos(math.Pi/6)-500)
	if off := got - want; !ok || math.Hypot(real(off), imag(off)) > 0.01 {
		t.Errorf("by three legs to %v %v, want about %v", got, ok, want)
	}
}

// legsThat returns lists of legs of which the first one, one in the middle or the last one is the
// given one, and the others leave a boat where she is if there is no stream.
func legsThat(leg impl.Leg) [][]impl.Leg {
	var lists [][]impl.Leg
	for _, n := range []int{1, 2, 7, impl.MaxLegs} {
		for _, place := range []int{0, n / 2, n - 1} {
			legs := alikeLegs(legBy(45, 0, 10), n)
			legs[place] = leg
			lists = append(lists, legs)
		}
	}
	return lists
}

func TestLegsThatLeadOutOfThePlane(t *testing.T) {
	cases := []struct {
		pos     complex128
		heading int
		speed   float32
		most    int
	}{
		{1e8 - 1000, 0, 1, 1000}, {1e8, 0, 5, 0}, {1e8 + 1e8i, 0, 5, 0}, {-1e8 + 7, 180, 1, 7}, {complex(5, 1e8-7), 90, 1, 7}, {complex(5, 7-1e8), 270, 1, 7}, {complex(below(1e8), 0), 0, 1e-8, 2}, {1e8 - 1e5, 0, 1, impl.MaxLeg},
	}
	for _, c := range cases {
		for _, seconds := range []int{c.most, c.most + 1, c.most + 2, impl.MaxLeg} {
			for _, legs := range legsThat(legBy(c.heading, c.speed, min(seconds, impl.MaxLeg))) {
				_, fine := runOf(c.pos, legs, 0)
				if fine != (seconds <= c.most || c.most == impl.MaxLeg) {
					t.Fatalf("%v for %d seconds: %v", c, seconds, fine)
				}
				// Behind a leg that leads out no other one leads back.
				for _, more := range [][]impl.Leg{legs, append(legs, legBy(c.heading+180, c.speed, min(seconds, impl.MaxLeg)))} {
					if got, ok := impl.RunLegs(c.pos, more, 0); ok != (fine && len(more) <= impl.MaxLegs) || !ok && !sameComplex(got, 0) {
						t.Fatalf("RunLegs(%v, %v, 0): %v %v", c.pos, more, got, ok)
					}
				}
			}
		}
	}
}

// A boat that is faster over ground than MaxSpeed makes no step, not even of no seconds.
func TestLegsThatAreTooFastOverGround(t *testing.T) {
	for _, seconds := range []int{0, 1, 600} {
		for _, legs := range legsThat(legBy(0, impl.MaxBoat, seconds)) {
			want := complex(float64(100*seconds+50*10*(len(legs)-1)), 0)
			if got, ok := impl.RunLegs(0, legs, 50); !ok || got != want {
				t.Fatalf("RunLegs(0, %v, 50): %v %v", legs, got, ok)
			}
			// The sum with this stream is rounded to MaxSpeed.
			if got, ok := impl.RunLegs(0, legs, complex(next(50), 0)); !ok || math.Abs(real(got-want)) > 1 {
				t.Fatalf("RunLegs(0, %v, %v): %v %v", legs, next(50), got, ok)
			}
			for _, stream := range []complex64{complex(next(next(50)), 0), 51, 100 - 100i} {
				if got, ok := impl.RunLegs(0, legs, stream); ok || !sameComplex(got, 0) {
					t.Fatalf("RunLegs(0, %v, %v): %v %v", legs, stream, got, ok)
				}
			}
		}
	}
}

// checkNoRun checks that legs lead nowhere, and are left as they are.
func checkNoRun(t *testing.T, pos complex128, legs []impl.Leg, stream complex64) {
	t.Helper()
	given := slices.Clone(legs)
	if got, ok := impl.RunLegs(pos, legs, stream); ok || !sameComplex(got, 0) {
		t.Fatalf("RunLegs(%v, %v, %v): %v %v", pos, legs, stream, got, ok)
	}
	if !sameLegs(legs, given) {
		t.Fatalf("%v has become %v", given, legs)
	}
}

func TestRunLegsOfWhatIsNotValid(t *testing.T) {
	some := []impl.Leg{legBy(0, 2, 100), legBy(90, 3, 600), legBy(200, 1, 0)}
	for _, legs := range [][]impl.Leg{nil, {}, {{}}, {legBy(180, 50, impl.MaxLeg)}, some} {
		for _, pos := range brokenVectors() {
			checkNoRun(t, pos, legs, 0)
			checkNoRun(t, pos, legs, -1)
		}
		for _, stream := range brokenWinds() {
			checkNoRun(t, 0, legs, stream)
			checkNoRun(t, 1e8-1e8i, legs, stream)
		}
	}
	for _, leg := range brokenLegs() {
		for _, legs := range legsThat(leg) {
			checkNoRun(t, 0, legs, 0)
			checkNoRun(t, 7-2i, legs, 1.5)
		}
	}
	for _, n := range []int{impl.MaxLegs + 1, 2 * impl.MaxLegs, 1000} {
		checkNoRun(t, 0, alikeLegs(legBy(0, 1, 10), n), 0)
		checkNoRun(t, 0, alikeLegs(impl.Leg{}, n), 1)
	}
}

// Some legs and then some more lead, if all of them together lead somewhere, to the same position to
// the last bit.
func TestSomeLegsAndThenSomeMore(t *testing.T) {
	d, places, streams := dice(35), positions(), legStreams()
	led := 0
	for range 600 {
		pos, stream := places[d.upTo(len(places))], streams[d.upTo(len(streams))]
		legs := wildLegs(&d, d.upTo(8)*d.upTo(8), 5000)
		all, ok := impl.RunLegs(pos, legs, stream)
		if !ok {
			continue
		}
		led++
		for n := range len(legs) + 1 {
			some, first := impl.RunLegs(pos, legs[:n], stream)
			more, second := impl.RunLegs(some, legs[n:], stream)
			if !first || !second || !sameComplex(more, all) {
				t.Fatalf("from %v by %d of %v to %v %v, and by the others to %v %v, want %v", pos, n, legs, some, first, more, second, all)
			}
		}
	}
	if led < 300 {
		t.Error("only few legs lead somewhere:", led)
	}
}

// Legs of no seconds leave a position as it is, but that -0 may become 0, as StepOn tells.
func TestLegsOfNoSeconds(t *testing.T) {
	d, streams := dice(36), legStreams()
	led := 0
	for _, pos := range positions() {
		for range 10 {
			legs, stream := wildLegs(&d, d.upTo(impl.MaxLegs+1), 0), streams[d.upTo(len(streams))]
			got, ok := impl.RunLegs(pos, legs, stream)
			if want, fine := runOf(pos, legs, stream); ok != fine || ok && (got != pos || !sameComplex(got, want)) {
				t.Fatalf("RunLegs(%v, %v, %v): %v %v, want %v %v", pos, legs, stream, got, ok, want, fine)
			}
			if ok {
				led++
			}
		}
	}
	if led < 1000 {
		t.Error("only few legs lead somewhere:", led)
	}
}
