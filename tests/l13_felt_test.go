package tests

import (
	"math"
	"testing"

	"loop.example/g03321/impl"
)

// checkFelt returns Pace and Felt, after a look that they follow their rules, that they are as they are by
// the boat's polar, the heading and the wind alone, and that nothing is written into the yacht.
func checkFelt(t *testing.T, y impl.Yacht) (float32, impl.Moment, bool) {
	t.Helper()
	bare := impl.Yacht{B: impl.Boat{P: y.B.P}, Heading: y.Heading, Wind: y.Wind}
	other := impl.Yacht{B: y.B, Time: -5, Pos: complex(math.NaN(), 1e300), Heading: y.Heading, Wind: y.Wind, Sail: 77, Track: []impl.Sight{sight(1, 1, -1)}, Log: logOf(500)}
	pace := paceBy(y)
	want, fine := feltBy(y)
	for _, one := range []impl.Yacht{y, bare, other} {
		h := holdYacht(one)
		speed, again := impl.Pace(h.given), impl.Pace(h.given)
		if !sameSingle(speed, pace) || !sameSingle(again, pace) {
			t.Fatalf("Pace(%v): %v %v, want %v", one, speed, again, pace)
		}
		for range 2 {
			if m, ok := impl.Felt(h.given); ok != fine || !sameMoment(m, want) {
				t.Fatalf("Felt(%v): %v %v, want %v %v", one, m, ok, want, fine)
			}
		}
		h.check(t)
	}
	return pace, want, fine
}

func TestPaceAndFeltOfSmallNumbers(t *testing.T) {
	tiny := float32(math.SmallestNonzeroFloat32)
	cases := []struct {
		wind    complex64
		heading int
		pace    float32
		felt    impl.Moment
	}{
		// In a north wind: ahead, close to it, across it, away from it.
		{-4, 0, 0, moment(4, 0)}, {-4, 20, 2, moment(5.919044, 13)}, {-4, 40, 4, moment(7.517541, 20)}, {-4, 90, 6, moment(7.2111025, 34)}, {-4, 270, 6, moment(7.2111025, 34)}, {-4, 180, 3, moment(1, 180)}, {-4, 65, 5, moment(7.609516, 28)},
		{-8, 90, 8, moment(11.313708, 45)}, {-6, 90, 7, moment(9.219544, 41)}, {-2, 90, 3, moment(3.6055512, 34)}, {-16, 90, 8, moment(17.888544, 63)}, {-100, 180, 5, moment(95, 180)},
		// The wind comes from elsewhere.
		{-4i, 90, 0, moment(4, 0)}, {-4i, 0, 6, moment(7.2111025, 34)}, {-4i, 180, 6, moment(7.2111025, 34)}, {4, 180, 0, moment(4, 0)}, {4, 0, 3, moment(1, 180)},
		// No polar knows so much wind, but it is felt; so is one that is too little to have a speed.
		{100 + 100i, 225, 0, moment(141.42136, 0)}, {100 - 100i, 45, 0, moment(141.42136, 90)}, {-100 - 0.5i, 180, 0, moment(100.00125, 180)}, {complex(-tiny, 0), 90, 0, moment(0, 90)},
		// Headings that no valid yacht has.
		{-4, 360, 0, moment(4, 0)}, {-4, -90, 6, moment(7.2111025, 34)}, {-4, 900, 3, moment(1, 180)}, {-4, 90 - 360*1000000, 6, moment(7.2111025, 34)},
	}
	for _, c := range cases {
		y := impl.Yacht{B: sloop(), Heading: c.heading, Wind: c.wind, Sail: -1}
		pace, m, ok := checkFelt(t, y)
		if math.Abs(float64(pace-c.pace)) > 1e-5 || !ok || math.Abs(float64(m.Speed-c.felt.Speed)) > 1e-4 || m.Angle != c.felt.Angle {
			t.Errorf("in %v at %d: %v, %v %v, want %v and %v", c.wind, c.heading, pace, m, ok, c.pace, c.felt)
		}
	}
}

// No wind is felt in a calm, where she is as fast as the air, and where more than MaxSpeed would be felt
// in one part.
func TestFeltOfNoWind(t *testing.T) {
	none := func(y impl.Yacht, pace float32) {
		t.Helper()
		if got, m, ok := checkFelt(t, y); got != pace || ok || m != (impl.Moment{}) {
			t.Errorf("%v: %v, %v %v", y, got, m, ok)
		}
	}
	for heading := -1; heading <= 360; heading++ {
		for _, calm := range calms() {
			none(impl.Yacht{B: ketch(), Heading: heading, Wind: calm}, 0)
			// The speed is 0 without a sign, also for a polar that has it with one.
			none(impl.Yacht{B: impl.Boat{P: flat([]float32{4}, []int{0, 180}, float32(negativeZero))}, Heading: heading, Wind: calm}, 0)
		}
	}
	even := impl.Boat{P: flat([]float32{4}, []int{0, 180}, 4)}
	none(impl.Yacht{B: even, Wind: 4}, 4)
	none(impl.Yacht{B: even, Wind: 2}, 2)
	for _, wind := range []float32{next(96), 97, 99} {
		none(impl.Yacht{B: even, Wind: complex(-wind, 0)}, 4)
		none(impl.Yacht{B: even, Wind: complex(-wind, 9)}, 4)
	}
	if _, m, ok := checkFelt(t, impl.Yacht{B: even, Wind: -96}); !ok || m != moment(100, 0) {
		t.Error("just MaxSpeed:", m, ok)
	}
	// In so much wind she has no speed, and what blows is felt.
	if _, m, ok := checkFelt(t, impl.Yacht{B: even, Wind: -100 + 20i}); !ok || m.Angle != 11 {
		t.Error("more than the polar knows:", m, ok)
	}
}

// Whatever is not valid has no speed: winds, and polars.
func TestPaceOfWhatIsNotValid(t *testing.T) {
	for i, wind := range brokenWinds() {
		for _, b := range []impl.Boat{sloop(), ketch(), {}} {
			if pace, m, ok := checkFelt(t, impl.Yacht{B: b, Heading: i, Wind: wind}); pace != 0 || ok || m != (impl.Moment{}) {
				t.Errorf("in %v: %v, %v %v", wind, pace, m, ok)
			}
		}
	}
	for name, p := range brokenPolars() {
		for heading, angle := range map[int]int{0: 0, 45: 45, 181: 179} {
			y := impl.Yacht{B: impl.Boat{P: p}, Heading: heading, Wind: -4}
			if pace, m, ok := checkFelt(t, y); pace != 0 || !ok || m != moment(4, angle) {
				t.Errorf("%s at %d: %v, %v %v", name, heading, pace, m, ok)
			}
		}
	}
}

func TestPaceAndFeltFollowTheirRules(t *testing.T) {
	winds, headings := append(edgeWinds(), wildWinds(300)...), append(edgeDegrees(), 17, 101, 200, 333)
	boats, felt, fast := goodBoats(), 0, 0
	for i, wind := range winds {
		for k := range 5 {
			b := boats[(3*i+k)%len(boats)]
			pace, _, ok := checkFelt(t, impl.Yacht{B: b, Heading: headings[(7*i+k)%len(headings)], Wind: wind})
			if ok {
				felt++
			}
			if pace > 0 {
				fast++
			}
		}
	}
	if felt < 1000 || fast < 500 {
		t.Error("only few yachts are fast, or feel a wind:", fast, felt)
	}
}
