package tests

import (
	"math"
	"math/big"
	"sync"
	"testing"

	"loop.example/g03321/impl"
)

// allTurnsOf returns the turns by 0 to 359 degrees, by the rule for Turn.
var allTurnsOf = sync.OnceValue(func() []complex128 {
	var list []complex128
	for k := range 360 {
		list = append(list, turnOf(k))
	}
	return list
})

// ruledTurn returns the turn by k degrees, by the rule for Turn.
func ruledTurn(k int) complex128 { return allTurnsOf()[degrees(big.NewInt(int64(k)))] }

// velocityOf follows the rule for Velocity.
func velocityOf(heading int, speed float32) complex64 {
	turn := ruledTurn(heading)
	return complex(times32(float32(real(turn)), speed), times32(float32(imag(turn)), speed))
}

// groundOf follows the rule for OverGround.
func groundOf(heading int, speed float32, stream complex64) complex64 {
	v := velocityOf(heading, speed)
	return complex(plus32(real(v), real(stream)), plus32(imag(v), imag(stream)))
}

// alongOf and offOf follow the rules for AlongTrack and OffTrack, from the velocity over ground on.
func alongOf(track int, ground complex64) float64 {
	turn, v := ruledTurn(track), complex128(ground)
	return plus(times(real(turn), real(v)), times(imag(turn), imag(v)))
}

func offOf(track int, ground complex64) float64 {
	turn, v := ruledTurn(track), complex128(ground)
	return minus(times(real(turn), imag(v)), times(imag(turn), real(v)))
}

// boatSpeeds returns valid speeds of a boat: those at the edges, and others of all kinds.
func boatSpeeds(n int) []float32 {
	list := []float32{0, float32(negativeZero), math.SmallestNonzeroFloat32, 3 * math.SmallestNonzeroFloat32, 1e-38, 1e-20, 0.01, prior(0.5), 0.5, next(0.5), 1, 2.5, 6, prior(impl.MaxBoat), impl.MaxBoat}
	d := dice(20)
	for range n {
		list = append(list, float32(math.Abs(d.within(math.Ldexp(50, -d.upTo(12))))))
	}
	return list
}

// brokenBoatSpeeds returns speeds that are not valid.
func brokenBoatSpeeds() []float32 {
	inf := float32(math.Inf(1))
	return []float32{float32(math.NaN()), inf, -inf, -math.SmallestNonzeroFloat32, -0.5, -1, -impl.MaxBoat, next(impl.MaxBoat), 51, impl.MaxSpeed, math.MaxFloat32, -math.MaxFloat32}
}

// streamsAbout returns valid streams for a boat that steers a track with a speed: none, those at the
// edges, and along the track, against it and across it some that are slower than the boat, as fast
// as she is, and faster.
func streamsAbout(track int, speed float32) []complex64 {
	z := float32(negativeZero)
	list := []complex64{0, complex(z, z), math.SmallestNonzeroFloat32, 100 + 100i, 100 - 100i, -100 + 100i, -100 - 100i, 100, -100i, 1.5 - 0.25i}
	for _, share := range []float32{0.25, prior(1), 1, next(1), 1.5} {
		for _, side := range []int{0, 90, 180, 270, 60, 200} {
			list = append(list, velocityOf(track+side, share*speed))
		}
	}
	return list
}

// shownHeadings returns headings within the circle, about its quarters and beyond it.
func shownHeadings() []int {
	list := edgeDegrees()
	for k := -45; k < 405; k += 11 {
		list = append(list, k)
	}
	return list
}

func TestLimitOfLeeway(t *testing.T) {
	if impl.MaxLeeway != 30 {
		t.Error("limit:", impl.MaxLeeway)
	}
}

func TestVelocityFollowsItsRule(t *testing.T) {
	wide := 0
	for heading := -400; heading < 800; heading++ {
		for _, speed := range boatSpeeds(10) {
			want := velocityOf(heading, speed)
			if got, ok := impl.Velocity(heading, speed); !ok || !sameWind(got, want) {
				t.Fatalf("Velocity(%d, %v): %v %v, want %v", heading, speed, got, ok, want)
			}
			turn := impl.Turn(heading)
			if float32(real(turn)*float64(speed)) != real(want) {
				wide++
			}
		}
	}
	if wide < 1000 {
		t.Error("only few products show whether the turn is narrowed:", wide)
	}
}

func TestVelocityOfAnyInt(t *testing.T) {
	for _, heading := range edgeDegrees() {
		for _, speed := range []float32{0.5, 6.1, impl.MaxBoat} {
			want := velocityOf(heading, speed)
			if got, ok := impl.Velocity(heading, speed); !ok || !sameWind(got, want) {
				t.Errorf("Velocity(%d, %v): %v %v, want %v", heading, speed, got, ok, want)
			}
		}
	}
}

func TestVelocityOfSmallNumbers(t *testing.T) {
	z, least := float32(negativeZero), float32(math.SmallestNonzeroFloat32)
	cases := []struct {
		heading int
		speed   float32
		want    complex64
	}{
		{0, 4, 4}, {360, 4, 4}, {-720, impl.MaxBoat, impl.MaxBoat}, {0, 0, 0}, {0, z, complex(z, z)}, {0, least, complex(least, 0)},
		{45, 0, 0}, {135, 0, complex(z, 0)}, {225, 0, complex(z, z)}, {315, 0, complex(0, z)}, {135, z, complex(0, z)}, {225, z, 0},
		// Half of the least single is rounded to 0, more than half of it to that single.
		{30, least, complex(least, 0)}, {31, least, complex(least, least)}, {59, least, complex(least, least)}, {61, least, complex(0, least)}, {90, least, complex(0, least)},
		{149, least, complex(-least, least)}, {151, least, complex(-least, 0)}, {209, least, complex(-least, z)}, {211, least, complex(-least, -least)}, {271, least, complex(0, -least)}, {359, least, complex(least, z)},
		{1, 50, complex(float32(impl.StepReal)*50, float32(impl.StepImag)*50)},
	}
	for _, c := range cases {
		if got, ok := impl.Velocity(c.heading, c.speed); !ok || !sameWind(got, c.want) {
			t.Errorf("Velocity(%d, %v): %v %v, want %v", c.heading, c.speed, got, ok, c.want)
		}
	}
	for heading, want := range map[int]complex128{90: 6i, 180: -6, 270: -6i, 60: complex(3, 6*math.Sin(math.Pi/3)), 210: complex(6*math.Cos(7*math.Pi/6), -3)} {
		got, ok := impl.Velocity(heading, 6)
		if off := complex128(got) - want; !ok || math.Hypot(real(off), imag(off)) > 1e-6 {
			t.Errorf("Velocity(%d, 6): %v %v, want about %v", heading, got, ok, want)
		}
	}
}

func TestOverGroundFollowsItsRule(t *testing.T) {
	fused, beyond := 0, 0
	for _, heading := range shownHeadings() {
		for _, speed := range boatSpeeds(4) {
			for _, stream := range streamsAbout(heading, speed) {
				want := groundOf(heading, speed, stream)
				if got, ok := impl.OverGround(heading, speed, stream); !ok || !sameWind(got, want) {
					t.Fatalf("OverGround(%d, %v, %v): %v %v, want %v", heading, speed, stream, got, ok, want)
				}
				turn := float64(float32(real(impl.Turn(heading))))
				if float32(turn*float64(speed)+float64(real(stream))) != real(want) {
					fused++
				}
				if !impl.VelocityOk(want) {
					beyond++
				}
			}
		}
	}
	if fused < 1000 || beyond < 1000 {
		t.Error("only few sums show whether the product is rounded, or are no valid velocities:", fused, beyond)
	}
}

func TestOverGroundOfSmallNumbers(t *testing.T) {
	z, least := float32(negativeZero), float32(math.SmallestNonzeroFloat32)
	cases := []struct {
		heading int
		speed   float32
		stream  complex64
		want    complex64
	}{
		{0, 4, 1, 5}, {0, 4, -4, 0}, {0, 4, -7 + 2i, -3 + 2i}, {0, 4, 2i, 4 + 2i}, {360, 50, 100 + 100i, 150 + 100i}, {0, 50, -100 - 100i, -50 - 100i},
		{0, 0, complex(z, z), 0}, {225, 0, complex(z, z), complex(z, z)}, {225, 0, 0, 0}, {225, 0, complex(z, 0), complex(z, 0)}, {0, z, complex(z, z), complex(z, z)}, {0, z, 3 - 1i, 3 - 1i},
		// What is less than half of the last place gets lost.
		{0, least, 100, 100}, {0, least, complex(-least, least), complex(0, least)}, {0, 1e-6, 100, 100}, {0, 5e-6, 100, complex(next(100), 0)},
	}
	for _, c := range cases {
		if got, ok := impl.OverGround(c.heading, c.speed, c.stream); !ok || !sameWind(got, c.want) {
			t.Errorf("OverGround(%d, %v, %v): %v %v, want %v", c.heading, c.speed, c.stream, got, ok, c.want)
		}
	}
}

func TestAlongAndOffTrackFollowTheirRules(t *testing.T) {
	d, headings := dice(21), shownHeadings()
	var narrow, fusedAlong, fusedOff int
	for _, track := range shownHeadings() {
		for _, speed := range boatSpeeds(2) {
			for _, stream := range streamsAbout(track, speed) {
				heading := headings[d.upTo(len(headings))]
				ground := groundOf(heading, speed, stream)
				along, off := alongOf(track, ground), offOf(track, ground)
				if got, ok := impl.AlongTrack(track, heading, speed, stream); !ok || !sameFloat(got, along) {
					t.Fatalf("AlongTrack(%d, %d, %v, %v): %v %v, want %v", track, heading, speed, stream, got, ok, along)
				}
				if got, ok := impl.OffTrack(track, heading, speed, stream); !ok || !sameFloat(got, off) {
					t.Fatalf("OffTrack(%d, %d, %v, %v): %v %v, want %v", track, heading, speed, stream, got, ok, off)
				}
				turn, v := impl.Turn(track), complex128(ground)
				if float64(float32(real(turn)))*real(v)+float64(float32(imag(turn)))*imag(v) != along {
					narrow++
				}
				if math.FMA(real(turn), real(v), imag(turn)*imag(v)) != along {
					fusedAlong++
				}
				if math.FMA(real(turn), imag(v), -imag(turn)*real(v)) != off {
					fusedOff++
				}
			}
		}
	}
	if narrow < 1000 || fusedAlong < 1000 || fusedOff < 1000 {
		t.Error("only few results show whether all is wide, and rounded step by step:", narrow, fusedAlong, fusedOff)
	}
}

func TestAlongAndOffTrackOfSmallNumbers(t *testing.T) {
	z, least := float32(negativeZero), math.SmallestNonzeroFloat32
	cases := []struct {
		track, heading int
		speed          float32
		stream         complex64
		along, off     float64
	}{
		{0, 0, 4, 0, 4, 0}, {0, 0, 4, 1 + 2i, 5, 2}, {0, 0, 4, -5 - 3i, -1, -3}, {360, -360, 4, -4, 0, 0}, {0, 0, impl.MaxBoat, 100 - 100i, 150, -100},
		{0, 0, 0, 0, 0, 0}, {0, 0, float32(least), 0, least, 0}, {0, 0, float32(least), complex(0, float32(-least)), least, -least},
		{0, 135, 0, complex(z, 0), 0, 0}, {0, 225, 0, complex(z, z), negativeZero, 0}, {0, 0, z, complex(z, z), negativeZero, 0},
	}
	for _, c := range cases {
		along, ok := impl.AlongTrack(c.track, c.heading, c.speed, c.stream)
		off, fine := impl.OffTrack(c.track, c.heading, c.speed, c.stream)
		if !ok || !fine || !sameFloat(along, c.along) || !sameFloat(off, c.off) {
			t.Errorf("track %d, heading %d, %v, %v: %v %v and %v %v, want %v and %v", c.track, c.heading, c.speed, c.stream, along, ok, off, fine, c.along, c.off)
		}
	}
	// Off to starboard it is greater than 0, off to port less.
	for track := -360; track <= 720; track += 13 {
		for aside, want := range map[int][2]float64{1: {0.99985, 0.01745}, 30: {0.86603, 0.5}, 90: {0, 1}, 150: {-0.86603, 0.5}, 180: {-1, 0}, -60: {0.5, -0.86603}, -90: {0, -1}, -120: {-0.5, -0.86603}} {
			along, _ := impl.AlongTrack(track, track+aside, 10, 0)
			off, _ := impl.OffTrack(track, track+aside, 10, 0)
			if math.Abs(along-10*want[0]) > 1e-4 || math.Abs(off-10*want[1]) > 1e-4 {
				t.Errorf("track %d, %d aside: %v and %v, want about ten times %v", track, aside, along, off, want)
			}
		}
	}
}

// checkNoCourse checks that a speed or a stream that is not valid has none of the velocities.
func checkNoCourse(t *testing.T, track, heading int, speed float32, stream complex64) {
	t.Helper()
	if got, ok := impl.OverGround(heading, speed, stream); ok || !sameWind(got, 0) {
		t.Fatalf("OverGround(%d, %v, %v): %v %v", heading, speed, stream, got, ok)
	}
	if got, ok := impl.AlongTrack(track, heading, speed, stream); ok || !sameFloat(got, 0) {
		t.Fatalf("AlongTrack(%d, %d, %v, %v): %v %v", track, heading, speed, stream, got, ok)
	}
	if got, ok := impl.OffTrack(track, heading, speed, stream); ok || !sameFloat(got, 0) {
		t.Fatalf("OffTrack(%d, %d, %v, %v): %v %v", track, heading, speed, stream, got, ok)
	}
	if got, ok := impl.Steer(track, speed, stream); ok || got != 0 {
		t.Fatalf("Steer(%d, %v, %v): %v %v", track, speed, stream, got, ok)
	}
	if got, ok := impl.Passage(track, 1000, speed, stream); ok || got != 0 {
		t.Fatalf("Passage(%d, 1000, %v, %v): %v %v", track, speed, stream, got, ok)
	}
}

func TestCoursesOfSpeedsThatAreNotValid(t *testing.T) {
	for _, speed := range brokenBoatSpeeds() {
		for _, heading := range edgeDegrees() {
			if got, ok := impl.Velocity(heading, speed); ok || !sameWind(got, 0) {
				t.Fatalf("Velocity(%d, %v): %v %v", heading, speed, got, ok)
			}
			for _, stream := range []complex64{0, 2 - 1i, 100 + 100i, complex(float32(math.NaN()), 0)} {
				checkNoCourse(t, heading, heading, speed, stream)
				checkNoCourse(t, 0, heading, speed, stream)
			}
		}
	}
}

func TestCoursesInStreamsThatAreNotValid(t *testing.T) {
	for _, stream := range brokenWinds() {
		for _, speed := range []float32{0, 0.5, 6, impl.MaxBoat} {
			for _, track := range []int{0, 77, 180, -90, math.MinInt, math.MaxInt} {
				checkNoCourse(t, track, track, speed, stream)
				checkNoCourse(t, track, 0, speed, stream)
			}
		}
	}
}
