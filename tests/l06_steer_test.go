package tests

import (
	"math"
	"testing"

	"loop.example/g03321/impl"
)

// wildCourse returns a track, a speed and a stream that look random, all valid.
func wildCourse(d *dice) (int, float32, complex64) {
	tracks, speeds := shownHeadings(), boatSpeeds(10)
	track, speed := tracks[d.upTo(len(tracks))], speeds[d.upTo(len(speeds))]
	streams := streamsAbout(track, speed)
	return track, speed, streams[d.upTo(len(streams))]
}

// grounds returns the velocity over ground for each heading.
func grounds(speed float32, stream complex64) []complex64 {
	var list []complex64
	for heading := range 360 {
		list = append(list, groundOf(heading, speed, stream))
	}
	return list
}

// steerOf follows the rule for Steer, where over has the velocity over ground for each heading.
func steerOf(track int, over []complex64) (int, bool) {
	best, found := 0, false
	for heading, ground := range over {
		if alongOf(track, ground) <= 0 {
			continue
		}
		if !found || math.Abs(offOf(track, ground)) < math.Abs(offOf(track, over[best])) {
			best, found = heading, true
		}
	}
	return best, found
}

// checkSteer checks that Steer follows its rule, and returns what it tells.
func checkSteer(t *testing.T, track int, speed float32, stream complex64) (int, bool) {
	t.Helper()
	want, fine := steerOf(track, grounds(speed, stream))
	got, ok := impl.Steer(track, speed, stream)
	if got != want || ok != fine {
		t.Fatalf("Steer(%d, %v, %v): %d %v, want %d %v", track, speed, stream, got, ok, want, fine)
	}
	return got, ok
}

// backLeavesLess reports whether a heading on which the boat does not come on along the track leaves
// it less than the given one, or as little and is less.
func backLeavesLess(track, best int, over []complex64) bool {
	least := math.Abs(offOf(track, over[best]))
	for heading, ground := range over {
		off := math.Abs(offOf(track, ground))
		if off < least || off == least && heading < best {
			return true
		}
	}
	return false
}

func TestSteerFollowsItsRule(t *testing.T) {
	d := dice(22)
	var none, straight, back, otherwise int
	for range 1500 {
		track, speed, stream := wildCourse(&d)
		got, ok := checkSteer(t, track, speed, stream)
		switch {
		case !ok:
			none++
		case impl.Between(got, track) == 0:
			straight++
		case backLeavesLess(track, got, grounds(speed, stream)):
			back++
		default:
			otherwise++
		}
	}
	if none < 100 || straight < 100 || back < 100 || otherwise < 100 {
		t.Error("only few headings of one kind:", none, straight, back, otherwise)
	}
}

// Of all headings that come on along a track none leaves it less.
func TestNoHeadingLeavesATrackLess(t *testing.T) {
	d := dice(23)
	for range 300 {
		track, speed, stream := wildCourse(&d)
		best, ok := impl.Steer(track, speed, stream)
		least, _ := impl.OffTrack(track, best, speed, stream)
		if along, _ := impl.AlongTrack(track, best, speed, stream); best < 0 || best > 359 || !ok && best != 0 || ok && along <= 0 {
			t.Fatalf("Steer(%d, %v, %v): %d %v", track, speed, stream, best, ok)
		}
		for heading := range 360 {
			along, _ := impl.AlongTrack(track, heading, speed, stream)
			off, _ := impl.OffTrack(track, heading, speed, stream)
			less := math.Abs(off) < math.Abs(least) || math.Abs(off) == math.Abs(least) && heading < best
			if along > 0 && (!ok || less) {
				t.Fatalf("Steer(%d, %v, %v): %d %v, but on %d she comes on by %v and off by %v", track, speed, stream, best, ok, heading, along, off)
			}
		}
	}
}

// Without a stream the heading that makes a track good is the track, for speeds of 0.5 at least.
func TestWithoutAStreamTheTrackIsSteered(t *testing.T) {
	speeds, z := []float32{0.5, next(0.5), 1, 3.7, 20, prior(impl.MaxBoat), impl.MaxBoat}, float32(negativeZero)
	d := dice(24)
	for range 5 {
		speeds = append(speeds, 0.5+float32(d.upTo(1<<20))/(1<<16))
	}
	for track := range 360 {
		for _, speed := range speeds {
			for _, stream := range []complex64{0, complex(z, z), complex(z, 0)} {
				for _, more := range []int{track, track - 360, track + 720000} {
					if got, ok := impl.Steer(more, speed, stream); !ok || got != track {
						t.Fatalf("Steer(%d, %v, %v): %d %v", more, speed, stream, got, ok)
					}
				}
			}
		}
	}
	for _, track := range edgeDegrees() {
		if got, ok := impl.Steer(track, 0.5, 0); !ok || impl.Between(got, track) != 0 || got < 0 || got > 359 {
			t.Errorf("Steer(%d, 0.5, 0): %d %v", track, got, ok)
		}
	}
}

// Products of a very low speed are rounded, also to 0, so that many headings leave a track alike.
func TestSteerOfSpeedsThatAreVeryLow(t *testing.T) {
	least, aside := float32(math.SmallestNonzeroFloat32), 0
	for _, speed := range []float32{least, 2 * least, 3 * least, 7 * least, 1e-44, 1e-40} {
		for track := 0; track < 360; track += 7 {
			if got, ok := checkSteer(t, track, speed, 0); ok && got != track {
				aside++
			}
		}
	}
	if aside < 50 {
		t.Error("only few are steered aside of the track:", aside)
	}
	cases := []struct {
		speed float32
		want  int
	}{{least, 0}, {2 * least, 0}, {3 * least, 0}, {1e-38, 0}}
	for _, c := range cases {
		if got, ok := impl.Steer(0, c.speed, 0); !ok || got != c.want {
			t.Errorf("Steer(0, %v, 0): %d %v", c.speed, got, ok)
		}
	}
	// All from 31 to 59 degrees have the same velocity.
	if got, ok := impl.Steer(45, least, 0); !ok || got != 31 {
		t.Error("with the least single:", got, ok)
	}
}

func TestSteerOfSmallNumbers(t *testing.T) {
	z, least := float32(negativeZero), float32(math.SmallestNonzeroFloat32)
	cases := []struct {
		track  int
		speed  float32
		stream complex64
		want   int
		ok     bool
	}{
		{0, 5, 0, 0, true}, {90, 5, 0, 90, true}, {-90, 5, 0, 270, true}, {450, 5, 0, 90, true},
		// Streams from either side, and with her or against her.
		{0, 5, 2.5i, 330, true}, {0, 5, -2.5i, 30, true}, {0, 5, 3 + 2.5i, 330, true}, {0, 5, -3 + 2.5i, 330, true}, {90, 5, 2.5, 120, true}, {90, 5, -2.5, 60, true}, {180, 5, 2.5i, 210, true}, {270, 5, -2.5, 300, true}, {0, 5, 0.2i, 358, true},
		{0, 5, 4, 0, true}, {0, 5, 100, 0, true}, {0, impl.MaxBoat, -20, 0, true},
		// Against her, as fast as she is, and a little slower or faster.
		{0, 5, -5, 0, false}, {0, 5, complex(next(-5), 0), 0, true}, {0, 5, complex(prior(-5), 0), 0, false}, {0, 2, -3, 0, false}, {0, impl.MaxBoat, -100, 0, false}, {180, 5, 6, 0, false},
		// A stream alone: all headings leave the track alike.
		{0, 0, 0, 0, false}, {0, z, complex(z, z), 0, false}, {0, 0, 3, 0, true}, {0, z, 3, 0, true}, {180, 0, -3, 0, true}, {0, 0, -3, 0, false}, {0, 0, 3i, 0, false}, {0, 0, -3i, 0, false}, {40, 0, 100 + 100i, 0, true}, {40, 0, -100 - 100i, 0, false},
		{0, 0, complex(least, 100), 0, true}, {0, 0, complex(-least, 100), 0, false}, {0, least, 100, 0, true}, {0, least, -100, 0, false}, {0, least, complex(-least, 0), 0, false}, {0, 2 * least, complex(-least, 0), 0, true},
		// By its roundings the turn by 180 degrees is not quite the opposite of north: carried along
		// backwards she leaves the track less than on the heading 180.
		{180, 4, -5, 0, true}, {180, 5, -4, 180, true},
		// Faster across than she is: as much against it as she still comes on.
		{0, 5, 3 + 50i, 270, true}, {0, 5, 3 - 50i, 90, true}, {0, 5, -3 + 50i, 307, true}, {0, 5, -3 - 50i, 53, true}, {0, 5, -4.999 - 50i, 1, true},
	}
	for _, c := range cases {
		if got, ok := impl.Steer(c.track, c.speed, c.stream); got != c.want || ok != c.ok {
			t.Errorf("Steer(%d, %v, %v): %d %v, want %d %v", c.track, c.speed, c.stream, got, ok, c.want, c.ok)
		}
		checkSteer(t, c.track, c.speed, c.stream)
	}
}

// crossStream returns a stream in which the headings h and h + 1 leave the track 0 alike, if the
// numbers allow it: the one to port, the other to starboard, or the other way round.
func crossStream(h int, speed, along float32) (complex64, bool) {
	a, b := imag(velocityOf(h, speed)), imag(velocityOf(h+1, speed))
	across := -plus32(a, b) / 2
	stream := complex(along, across)
	left, right := offOf(0, groundOf(h, speed, stream)), offOf(0, groundOf(h+1, speed, stream))
	return stream, left == -right && left != 0
}

// If two headings leave a track alike, on either side of it, the lesser one is told, also about north.
func TestSteerOfHeadingsThatLeaveATrackAlike(t *testing.T) {
	d, seen := dice(25), map[int]bool{}
	for range 2000 {
		h, speed := d.upTo(90), 2+float32(d.upTo(1<<12))/(1<<8)
		if d.upTo(2) == 0 {
			h = 270 + h
		}
		stream, ok := crossStream(h, speed, -float32(d.upTo(2))/16)
		along, second := alongOf(0, groundOf(h, speed, stream)), alongOf(0, groundOf(h+1, speed, stream))
		if !ok || along <= 0 || second <= 0 {
			continue
		}
		want := min(h, (h+1)%360)
		if got, ok := impl.Steer(0, speed, stream); !ok || got != want {
			t.Fatalf("Steer(0, %v, %v): %d %v, want %d", speed, stream, got, ok, want)
		}
		seen[h] = true
	}
	if len(seen) < 80 || !seen[359] || !seen[0] {
		t.Error("only few headings:", len(seen), seen[359], seen[0])
	}
}

// In a stream that is fast along the track, headings to both sides of its quarters come on; those as
// far from one as from the other leave the track alike.
func TestSteerOfHeadingsOnBothSidesOfAQuarter(t *testing.T) {
	alike := 0
	for h := 5; h < 90; h++ {
		for _, speed := range []float32{1, 4, 6.5, impl.MaxBoat} {
			across := -imag(velocityOf(h, speed))
			stream := complex(90, across)
			first, second := offOf(0, groundOf(h, speed, stream)), offOf(0, groundOf(180-h, speed, stream))
			got, ok := checkSteer(t, 0, speed, stream)
			if math.Abs(first) == math.Abs(second) {
				alike++
				if !ok || got != h {
					t.Fatalf("Steer(0, %v, %v): %d %v, want %d", speed, stream, got, ok, h)
				}
			}
		}
	}
	if alike < 50 {
		t.Error("only few headings leave the track alike:", alike)
	}
}
