package tests

import (
	"math"
	"math/big"
	"testing"

	"loop.example/g03321/impl"
)

// sameMoment reports whether two moments are the same.
func sameMoment(a, b impl.Moment) bool { return sameSingle(a.Speed, b.Speed) && a.Angle == b.Angle }

// moment returns a moment.
func moment(speed float32, angle int) impl.Moment { return impl.Moment{Speed: speed, Angle: angle} }

// feltOf tells the speed and the bearing of what is felt of a valid wind with a valid velocity, and
// whether there are any.
func feltOf(w, v complex64) (float32, int, bool) {
	north, east := minus32(real(w), real(v)), minus32(imag(w), imag(v))
	a, b := float64(north), float64(east)
	if a == 0 && b == 0 || math.Abs(a) > 100 || math.Abs(b) > 100 {
		return 0, 0, false
	}
	speed := 0.0
	if square := plus(times(a, a), times(b, b)); square >= impl.MinSquare {
		speed = rootOf(square)
	}
	return float32(speed), bearingOf(complex(-a, -b)), true
}

// angleTo returns the angle between a heading and a bearing.
func angleTo(heading, bearing int) int {
	right := degrees(new(big.Int).Sub(big.NewInt(int64(heading)), big.NewInt(int64(bearing))))
	return min(right, 360-right)
}

// momentOf follows the rule for MomentOf, where the wind and the velocity are valid.
func momentOf(w, v complex64, heading int) (impl.Moment, bool) {
	speed, bearing, ok := feltOf(w, v)
	if !ok {
		return impl.Moment{}, false
	}
	return moment(speed, angleTo(heading, bearing)), true
}

// checkMoment checks that MomentOf follows its rule for valid velocities, and returns it.
func checkMoment(t *testing.T, w, v complex64, heading int) (impl.Moment, bool) {
	t.Helper()
	got, ok := impl.MomentOf(w, v, heading)
	if want, fine := momentOf(w, v, heading); ok != fine || !sameMoment(got, want) {
		t.Fatalf("MomentOf(%v, %v, %d): %v %v, want %v %v", w, v, heading, got, ok, want, fine)
	}
	return got, ok
}

func TestMomentOfSmallNumbers(t *testing.T) {
	cases := []struct {
		w, v    complex64
		heading int
		want    impl.Moment
	}{
		// The wind is felt as it is on a boat that lies still, and its own speed on one in a calm.
		{-6, 0, 0, moment(6, 0)}, {-6, 0, 90, moment(6, 90)}, {-6, 0, 270, moment(6, 90)}, {-6, 0, 180, moment(6, 180)}, {-6, 0, 45, moment(6, 45)}, {-6, 0, 315, moment(6, 45)}, {-6, 0, 181, moment(6, 179)}, {0, 4, 0, moment(4, 0)}, {0, 4i, 90, moment(4, 0)}, {0, 4i, 0, moment(4, 90)},
		// Ahead of it, and away from it; faster than the wind it comes from ahead again.
		{-6, 2, 0, moment(8, 0)}, {6, 2, 0, moment(4, 180)}, {6, 8, 0, moment(2, 0)}, {-6, -2, 180, moment(4, 180)}, {-6, -8, 180, moment(2, 0)},
		// Across it: by 3 and 4.
		{-4, 3i, 90, moment(5, 53)}, {-4, -3i, 270, moment(5, 53)}, {-3, 4i, 90, moment(5, 37)}, {-3i, 4, 0, moment(5, 37)}, {3i, 4, 0, moment(5, 37)}, {-5, 5i, 90, moment(7.071068, 45)},
		// The heading is another one than that of the velocity.
		{-6, 2, 30, moment(8, 30)}, {-6, 2, -30, moment(8, 30)}, {-6, 2, 390, moment(8, 30)}, {-6, 2, 720, moment(8, 0)}, {-6, 2, -180, moment(8, 180)}, {-6, 2, 540, moment(8, 180)}, {-6, 2, -359, moment(8, 1)},
		// As fast as a wind may be, and faster along no axis.
		{50, -50, 0, moment(100, 180)}, {100, 0, 0, moment(100, 180)}, {100 + 100i, 0, 225, moment(141.42136, 0)}, {50 - 50i, -50 + 50i, 135, moment(141.42136, 0)},
		// So little that it has no speed, but a bearing.
		{1e-7, 0, 0, moment(0, 180)}, {1, complex(next(1), 0), 0, moment(0, 0)}, {complex(0, -math.SmallestNonzeroFloat32), 0, 0, moment(0, 90)},
	}
	for _, c := range cases {
		if got, ok := checkMoment(t, c.w, c.v, c.heading); !ok || !sameMoment(got, c.want) {
			t.Errorf("MomentOf(%v, %v, %d): %v %v, want %v", c.w, c.v, c.heading, got, ok, c.want)
		}
	}
}

// velocitiesBy returns velocities that have these parts, along each axis and across both.
func velocitiesBy(list ...float32) []complex64 {
	var all []complex64
	for _, x := range list {
		all = append(all, complex(x, 0), complex(0, -x), complex(x, x))
	}
	return all
}

func TestMomentOfWhatIsNotFelt(t *testing.T) {
	none := func(w, v complex64, heading int) {
		t.Helper()
		if got, ok := impl.MomentOf(w, v, heading); ok || !sameMoment(got, impl.Moment{}) {
			t.Errorf("MomentOf(%v, %v, %d): %v %v", w, v, heading, got, ok)
		}
	}
	headings := []int{0, 1, 90, 359, 360, -1, math.MinInt, math.MaxInt}
	for i, heading := range headings {
		// The boat moves as the air does.
		for _, w := range append(append(eighthWinds(50), edgeWinds()...), calms()...) {
			none(w, w, heading)
			checkMoment(t, w, w, heading)
		}
		for _, w := range calms() {
			for _, v := range calms() {
				none(w, v, heading)
			}
		}
		// One of both is not valid, or both are.
		for j, bad := range brokenWinds() {
			for _, good := range []complex64{0, 1, -3.5i, 100 - 100i, wildWinds(20)[(i+j)%20]} {
				none(bad, good, heading)
				none(good, bad, heading)
			}
			none(bad, bad, heading)
			none(bad, -bad, heading)
		}
		// What is felt is more than a wind may be, in one part.
		for _, v := range velocitiesBy(prior(-50), -50.1, -51, -100, next(-100)) {
			none(-v, v, heading)
			checkMoment(t, -v, v, heading)
		}
		none(100, complex(-1e-5, 0), heading)
		none(60+100i, -60, heading)
		none(100+60i, -60i, heading)
	}
	if m, ok := impl.MomentOf(100, -1e-30, 7); !ok || m != moment(100, 173) {
		t.Error("a sum that is rounded to MaxSpeed:", m, ok)
	}
}

func TestMomentOfEachHeading(t *testing.T) {
	for _, w := range []complex64{-5, 5, -5i, 5i, -3 + 4i, 0.1 - 7i, windFrom(123, 9)} {
		speed, bearing, _ := feltOf(w, 0.5i)
		for heading := -800; heading <= 800; heading++ {
			m, ok := impl.MomentOf(w, 0.5i, heading)
			if want := moment(speed, angleTo(heading, bearing)); !ok || m != want || m.Angle < 0 || m.Angle > 180 {
				t.Fatalf("MomentOf(%v, 0.5i, %d): %v %v, want %v", w, heading, m, ok, want)
			}
		}
	}
	for _, heading := range edgeDegrees() {
		for _, w := range []complex64{-5, 2 - 7i, windFrom(301, 9)} {
			checkMoment(t, w, 1+1i, heading)
		}
	}
}

func TestMomentOfWindsFollowsItsRule(t *testing.T) {
	list, d := append(append(wildWinds(150), edgeWinds()...), eighthWinds(0)...), dice(110)
	told, none := 0, 0
	for i, w := range list {
		for _, v := range []complex64{list[(i*17+3)%len(list)], list[(i*5+1)%len(list)], w / 3} {
			if _, ok := checkMoment(t, w, v, d.upTo(720)-360); ok {
				told++
			} else {
				none++
			}
		}
	}
	if told < 1500 || none < 100 {
		t.Error("only few winds are felt, or are not:", told, none)
	}
}
