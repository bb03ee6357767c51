package tests

import (
	"math"
	"math/big"
	"slices"
	"testing"

	"loop.example/g03321/impl"
)

// secondsOf follows the rule for SecondsFor, where the quotient is 0 or far from the least floats.
func secondsOf(metres, along float64) (int, bool) {
	quotient := over(metres, along)
	if quotient > impl.MaxTime {
		return 0, false
	}
	n := int(quotient)
	if float64(n) < quotient {
		n++
	}
	return n, true
}

// passageOf follows the rule for Passage.
func passageOf(track int, metres float64, speed float32, stream complex64) (int, bool) {
	list := grounds(speed, stream)
	heading, ok := steerOf(track, list)
	if !ok {
		return 0, false
	}
	return secondsOf(metres, alongOf(track, list[heading]))
}

// someMetres returns valid metres: those at the edges, and others of all kinds.
func someMetres(n int) []float64 {
	list := []float64{0, negativeZero, 1e-200, 1e-9, 0.5, 1, above(1), 100, 12345.678, 5e6, above(5e6), below(impl.MaxPlane), impl.MaxPlane}
	d := dice(26)
	for range n {
		list = append(list, math.Abs(d.within(math.Ldexp(impl.MaxPlane, -d.upTo(40)))))
	}
	return list
}

// someAlongs returns speeds along a track that are greater than 0.
func someAlongs(n int) []float64 {
	list := []float64{1e-100, 1e-9, 0.1, 0.5, 1, above(1), below(1), 3, 7.25, 10, below(10), 150, 1e6, 1e100, math.MaxFloat64}
	d := dice(27)
	for range n {
		list = append(list, math.Abs(d.within(math.Ldexp(200, -d.upTo(20)))))
	}
	return list
}

// brokenMetres returns metres that are not valid.
func brokenMetres() []float64 {
	return []float64{math.NaN(), math.Inf(1), math.Inf(-1), -5e-324, -1, -impl.MaxPlane, above(impl.MaxPlane), impl.MaxPlane + 1, 1e200, math.MaxFloat64, -math.MaxFloat64}
}

// brokenAlongs returns speeds along a track with which no way can be made.
func brokenAlongs() []float64 {
	return []float64{math.NaN(), math.Inf(1), math.Inf(-1), 0, negativeZero, -5e-324, -1, -150, -math.MaxFloat64}
}

// quotientOf returns a quotient that is not rounded.
func quotientOf(metres, along float64) *big.Rat {
	return new(big.Rat).Quo(new(big.Rat).SetFloat64(metres), new(big.Rat).SetFloat64(along))
}

func TestSecondsForFollowsItsRule(t *testing.T) {
	some, none := 0, 0
	for _, metres := range someMetres(150) {
		for _, along := range someAlongs(150) {
			want, fine := secondsOf(metres, along)
			if got, ok := impl.SecondsFor(metres, along); got != want || ok != fine {
				t.Fatalf("SecondsFor(%v, %v): %d %v, want %d %v", metres, along, got, ok, want, fine)
			}
			if fine {
				some++
			} else {
				none++
			}
		}
	}
	if some < 1000 || none < 1000 {
		t.Error("only few are told, or are not:", some, none)
	}
}

func TestSecondsForOfSmallNumbers(t *testing.T) {
	const least = math.SmallestNonzeroFloat64
	cases := []struct {
		metres, along float64
		want          int
		ok            bool
	}{
		{100, 3, 34, true}, {100, 4, 25, true}, {101, 4, 26, true}, {99, 4, 25, true}, {100, 1, 100, true}, {0.5, 1, 1, true}, {1, 0.5, 2, true}, {6, 1.5, 4, true},
		// Whole quotients, and those a little above or below one.
		{6, 2, 3, true}, {above(6), 2, 4, true}, {below(6), 2, 3, true}, {6, above(2), 3, true}, {6, below(2), 4, true}, {above(1), 1, 2, true}, {below(1), 1, 1, true},
		{0, 5, 0, true}, {negativeZero, 5, 0, true}, {0, least, 0, true}, {negativeZero, least, 0, true}, {0, math.MaxFloat64, 0, true},
		// Quotients that are rounded to 0, to the least float, and beyond all floats.
		{least, 1, 1, true}, {least, 1.5, 1, true}, {least, 2, 0, true}, {least, above(2), 0, true}, {least, below(2), 1, true}, {least, least, 1, true}, {1e-200, 1e200, 0, true}, {least, math.MaxFloat64, 0, true}, {1, math.MaxFloat64, 1, true}, {impl.MaxPlane, math.MaxFloat64, 1, true},
		{1, least, 0, false}, {impl.MaxPlane, least, 0, false}, {1e-320, least, 2024, true},
		// MaxTime exactly, a little more, and a little less.
		{impl.MaxPlane, 10, impl.MaxTime, true}, {impl.MaxPlane, above(10), impl.MaxTime, true}, {impl.MaxPlane, below(10), 0, false}, {below(impl.MaxPlane), 10, impl.MaxTime, true}, {impl.MaxTime, 1, impl.MaxTime, true}, {above(impl.MaxTime), 1, 0, false}, {below(impl.MaxTime), 1, impl.MaxTime, true},
		{5e6, 0.5, impl.MaxTime, true}, {above(5e6), 0.5, 0, false}, {impl.MaxTime - 1, 1, impl.MaxTime - 1, true}, {impl.MaxTime - 0.5, 1, impl.MaxTime, true}, {impl.MaxTime + 1, 1, 0, false}, {impl.MaxPlane, 1, 0, false}, {impl.MaxPlane, 9.9, 0, false},
	}
	for _, c := range cases {
		if got, ok := impl.SecondsFor(c.metres, c.along); got != c.want || ok != c.ok {
			t.Errorf("SecondsFor(%v, %v): %d %v, want %d %v", c.metres, c.along, got, ok, c.want, c.ok)
		}
	}
}

// A quotient that is rounded to a whole number takes that number of seconds, though it is a little
// greater; and one that is rounded to MaxTime is not too great.
func TestSecondsForRoundsItsQuotient(t *testing.T) {
	d, rounded, last := dice(28), 0, 0
	for range 4000 {
		along := 0.5 + math.Abs(d.within(9))
		n := 1 + d.upTo(impl.MaxTime)
		if d.upTo(2) == 0 {
			n = impl.MaxTime
		}
		metres := times(float64(n), along)
		if over(metres, along) != float64(n) || quotientOf(metres, along).Cmp(new(big.Rat).SetInt64(int64(n))) <= 0 {
			continue
		}
		if got, ok := impl.SecondsFor(metres, along); !ok || got != n {
			t.Fatalf("SecondsFor(%v, %v): %d %v, want %d", metres, along, got, ok, n)
		}
		rounded++
		if n == impl.MaxTime {
			last++
		}
	}
	if rounded < 500 || last < 100 || rounded-last < 100 {
		t.Error("only few quotients are rounded down to a whole number:", rounded, last)
	}
}

func TestSecondsForOfWhatIsNotValid(t *testing.T) {
	refuse := func(metres, along float64) {
		t.Helper()
		if got, ok := impl.SecondsFor(metres, along); ok || got != 0 {
			t.Errorf("SecondsFor(%v, %v): %d %v", metres, along, got, ok)
		}
	}
	for _, metres := range brokenMetres() {
		for _, along := range append(someAlongs(5), brokenAlongs()...) {
			refuse(metres, along)
		}
	}
	for _, along := range brokenAlongs() {
		for _, metres := range someMetres(5) {
			refuse(metres, along)
		}
	}
}

func TestPassageFollowsItsRule(t *testing.T) {
	d, some, far, never := dice(29), 0, 0, 0
	for range 700 {
		track, speed, stream := wildCourse(&d)
		list := grounds(speed, stream)
		heading, steered := steerOf(track, list)
		for _, metres := range someMetres(6) {
			want, fine := 0, false
			if steered {
				want, fine = secondsOf(metres, alongOf(track, list[heading]))
			}
			if got, ok := impl.Passage(track, metres, speed, stream); got != want || ok != fine {
				t.Fatalf("Passage(%d, %v, %v, %v): %d %v, want %d %v", track, metres, speed, stream, got, ok, want, fine)
			}
			switch {
			case fine:
				some++
			case steered:
				far++
			default:
				never++
			}
		}
	}
	if some < 1000 || far < 500 || never < 500 {
		t.Error("only few passages of one kind:", some, far, never)
	}
}

func TestPassageOfSmallNumbers(t *testing.T) {
	z, least := float32(negativeZero), float32(math.SmallestNonzeroFloat32)
	cases := []struct {
		track  int
		metres float64
		speed  float32
		stream complex64
		want   int
		ok     bool
	}{
		{0, 100, 3, 0, 34, true}, {0, 100, 4, 0, 25, true}, {360, 100, 4, 0, 25, true}, {0, 100, 4, 1, 20, true}, {0, 100, 4, -1, 34, true}, {0, 100, 4, -3, 100, true}, {0, 100, 4, -4, 0, false}, {0, 100, 4, -5, 0, false}, {180, 100, 5, -4, 12, true},
		{90, 1000, 5, 3, 251, true}, {0, 1000, 5, 3 + 100i, 334, true},
		{0, 0, 4, 0, 0, true}, {0, negativeZero, 4, 0, 0, true}, {0, 0, 4, -4, 0, false}, {0, 0, 0, 0, 0, false}, {0, 0, z, 0, 0, false}, {0, 0, 0, 2, 0, true}, {0, 9, 0, 2, 5, true}, {0, 9, z, 2, 5, true},
		{0, impl.MaxPlane, 10, 0, impl.MaxTime, true}, {0, impl.MaxPlane, prior(10), 0, 0, false}, {0, 5e6, 0.5, 0, impl.MaxTime, true}, {0, above(5e6), 0.5, 0, 0, false}, {0, impl.MaxPlane, impl.MaxBoat, 100, 666667, true},
		{0, 0, least, 0, 0, true}, {0, 1e-9, least, 0, 0, false}, {0, 1e-44, 2 * least, 0, 4, true},
	}
	for _, c := range cases {
		if got, ok := impl.Passage(c.track, c.metres, c.speed, c.stream); got != c.want || ok != c.ok {
			t.Errorf("Passage(%d, %v, %v, %v): %d %v, want %d %v", c.track, c.metres, c.speed, c.stream, got, ok, c.want, c.ok)
		}
	}
	for _, track := range edgeDegrees() {
		want, fine := passageOf(track, 12345.678, 6, 1.5-0.25i)
		if got, ok := impl.Passage(track, 12345.678, 6, 1.5-0.25i); got != want || ok != fine || !ok {
			t.Errorf("track %d: %d %v, want %d %v", track, got, ok, want, fine)
		}
	}
}

// Half of a way takes no more time than all of it, if that can be told.
func TestHalfOfAWayTakesNoMoreTime(t *testing.T) {
	for _, metres := range append(someMetres(150), math.SmallestNonzeroFloat64, 1e-320, 0x1p-1022) {
		for _, along := range append(someAlongs(150), math.SmallestNonzeroFloat64, 1e-320) {
			all, ok := impl.SecondsFor(metres, along)
			half, fine := impl.SecondsFor(metres/2, along)
			if ok && (!fine || half > all) {
				t.Fatalf("along by %v, %v metres: %d, half of them: %d %v", along, metres, all, half, fine)
			}
		}
	}
	d := dice(30)
	for range 100 {
		track, speed, stream := wildCourse(&d)
		for _, metres := range someMetres(20) {
			all, ok := impl.Passage(track, metres, speed, stream)
			half, fine := impl.Passage(track, metres/2, speed, stream)
			if ok && (!fine || half > all) {
				t.Fatalf("track %d, speed %v, stream %v, %v metres: %d, half of them: %d %v", track, speed, stream, metres, all, half, fine)
			}
		}
	}
}

func TestPassageOfMetresThatAreNotValid(t *testing.T) {
	d := dice(31)
	for range 50 {
		track, speed, stream := wildCourse(&d)
		for _, metres := range brokenMetres() {
			if got, ok := impl.Passage(track, metres, speed, stream); ok || got != 0 {
				t.Fatalf("Passage(%d, %v, %v, %v): %d %v", track, metres, speed, stream, got, ok)
			}
		}
	}
}

// voyage has all that the functions for courses tell of the same arguments.
type voyage struct {
	velocity, ground            complex64
	side, leeway, steer, needed int
	along, off                  float64
	told                        [6]bool
}

func voyageOf(track, heading int, metres float64, speed float32, stream complex64) voyage {
	var v voyage
	v.velocity, v.told[0] = impl.Velocity(heading, speed)
	v.ground, v.told[1] = impl.OverGround(heading, speed, stream)
	v.side = impl.WindSide(heading, track)
	v.leeway, v.told[2] = impl.Leeway(heading, track, 7)
	v.along, v.told[3] = impl.AlongTrack(track, heading, speed, stream)
	v.off, _ = impl.OffTrack(track, heading, speed, stream)
	v.steer, v.told[4] = impl.Steer(track, speed, stream)
	v.needed, v.told[5] = impl.Passage(track, metres, speed, stream)
	return v
}

// Nothing is written into an argument, and nothing is kept: asked again, the other way round, all is
// told alike.
func TestCoursesAreToldAlikeAgain(t *testing.T) {
	type question struct {
		track, heading int
		metres         float64
		speed          float32
		stream         complex64
	}
	d, metres := dice(32), append(someMetres(5), brokenMetres()[3:]...)
	var questions []question
	for i := range 60 {
		track, speed, stream := wildCourse(&d)
		questions = append(questions, question{track, d.upTo(720) - 360, metres[i%len(metres)], speed, stream})
		questions = append(questions, question{track, track, 1, -speed - 1, stream}, question{track, 0, 1, speed, stream + 300})
	}
	given := slices.Clone(questions)
	var first []voyage
	for _, q := range questions {
		first = append(first, voyageOf(q.track, q.heading, q.metres, q.speed, q.stream))
	}
	for i := len(questions) - 1; i >= 0; i-- {
		q := questions[i]
		if again := voyageOf(q.track, q.heading, q.metres, q.speed, q.stream); again != first[i] {
			t.Fatalf("%v: %v, and again %v", q, first[i], again)
		}
	}
	if !slices.Equal(questions, given) {
		t.Error("an argument has been changed")
	}
}
