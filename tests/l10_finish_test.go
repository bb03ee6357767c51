package tests

import (
	"math"
	"testing"

	"loop.example/g03321/impl"
)

// firstAcross follows the rule for the first step of a track, from a sight on, that crosses a line
// with 1, at a time or behind it: the index of its second sight, and when it crosses; -1 and 0 if there
// is none.
func firstAcross(l impl.Line, track []impl.Sight, begin, least int) (int, int) {
	for i := begin + 1; i < len(track); i++ {
		if crossingOf(l, track[i-1].At, track[i].At) != 1 {
			continue
		}
		if time := timeAcross(l, track[i-1], track[i]); time >= least {
			return i, time
		}
	}
	return -1, 0
}

// finishOf follows the rule for FinishTime, where the course and the track are valid, and there is
// such a sight.
func finishOf(c impl.Course, track []impl.Sight, begin int) (int, bool) {
	list := progressOf(c, track, begin)
	if len(list) < len(c.Marks) {
		return 0, false
	}
	i, time := firstAcross(c.Finish, track, list[len(list)-1], math.MinInt)
	return time, i >= 0
}

// raceOf follows the rule for RaceTime, where the course, the track and the gun are valid.
func raceOf(c impl.Course, track []impl.Sight, gun int) (int, bool) {
	begin, _ := firstAcross(c.Start, track, 0, gun)
	if begin < 0 {
		return 0, false
	}
	time, ok := finishOf(c, track, begin)
	if !ok {
		return 0, false
	}
	return time - gun, true
}

// checkFinish returns FinishTime, after a look that nothing is written into the arguments, and that
// nothing behind them counts.
func checkFinish(t *testing.T, c impl.Course, track []impl.Sight, begin int) (int, bool) {
	t.Helper()
	given, marks := sparedCourse(c)
	sights, whole := spared(track)
	got, ok := impl.FinishTime(given, sights, begin)
	checkSparedCourse(t, c, marks)
	checkSpared(t, track, whole)
	given, sights = clipped(c, track)
	if alone, fine := impl.FinishTime(given, sights, begin); alone != got || fine != ok {
		t.Fatalf("FinishTime(%v, %v, %d): %d %v, and without room %d %v", c, track, begin, got, ok, alone, fine)
	}
	return got, ok
}

// checkRace returns RaceTime, likewise.
func checkRace(t *testing.T, c impl.Course, track []impl.Sight, gun int) (int, bool) {
	t.Helper()
	given, marks := sparedCourse(c)
	sights, whole := spared(track)
	got, ok := impl.RaceTime(given, sights, gun)
	checkSparedCourse(t, c, marks)
	checkSpared(t, track, whole)
	given, sights = clipped(c, track)
	if alone, fine := impl.RaceTime(given, sights, gun); alone != got || fine != ok {
		t.Fatalf("RaceTime(%v, %v, %d): %d %v, and without room %d %v", c, track, gun, got, ok, alone, fine)
	}
	return got, ok
}

// Around a mark at (100, 0) that is left to port, from a start at (0, 0) to (0, 20), to a finish at
// (0, 0) to (0, -20), which is crossed to the south. Of the places, low ones are behind the start.
func TestFinishOfSmallNumbers(t *testing.T) {
	c := offshore(toPort(100, 0))
	e, w := at(110, 5), at(110, -5)
	high, low, highWest, lowWest := at(5, 5), at(-5, 5), at(5, -5), at(-5, -5)
	cases := []struct {
		name  string
		track []impl.Sight
		begin int
		want  int
		ok    bool
	}{
		{"behind the rounding", trackBy(high, e, w, highWest, lowWest), 0, 35, true}, {"from the sight ahead of it on", trackBy(high, e, w, highWest, lowWest), 1, 35, true}, {"from the sight at which it would be rounded on", trackBy(high, e, w, highWest, lowWest), 2, 0, false},
		{"at the step behind it", trackBy(high, e, w, lowWest), 0, 30, true}, {"never", trackBy(high, e, w, highWest), 0, 0, false}, {"at the last sight", trackBy(e, w), 0, 0, false}, {"on the line", trackBy(high, e, w, at(0, -5)), 0, 0, false}, {"from the line", trackBy(high, e, w, at(0, -5), lowWest), 0, 30, true},
		{"ahead of the rounding alone", trackBy(highWest, lowWest, low, high, e, w, highWest), 0, 0, false}, {"ahead of it and behind it", trackBy(highWest, lowWest, low, high, e, w, highWest, lowWest), 0, 65, true}, {"the other way ahead of it", trackBy(lowWest, highWest, high, e, w, highWest), 0, 0, false},
		{"the other way behind it", trackBy(high, e, w, low, lowWest, highWest), 0, 0, false}, {"the other way, and then this way", trackBy(high, e, w, low, lowWest, highWest, lowWest), 0, 55, true}, {"twice", trackBy(high, e, w, highWest, lowWest, highWest, lowWest), 0, 35, true}, {"beyond an end", trackBy(high, e, w, at(5, -21), at(-5, -21)), 0, 0, false}, {"at an end", trackBy(high, e, w, at(5, -20), at(-5, -20)), 0, 35, true},
		{"not rounded", trackBy(high, highWest, lowWest), 0, 0, false}, {"rounded the wrong way", trackBy(high, w, e, highWest, lowWest), 0, 0, false}, {"the start is crossed", trackBy(high, e, w, low, high), 0, 0, false},
		{"no track", nil, 0, 0, false}, {"one sight", trackBy(e), 0, 0, false},
	}
	for _, x := range cases {
		if got, ok := checkFinish(t, c, x.track, x.begin); got != x.want || ok != x.ok {
			t.Errorf("%s: %d %v, want %d %v", x.name, got, ok, x.want, x.ok)
		}
	}
	// A step that rounds the mark and crosses the finish does not finish.
	c.Finish = lineFrom(105, -2, 115, -2)
	for _, x := range []struct {
		track []impl.Sight
		want  int
		ok    bool
	}{{trackBy(e, w), 0, false}, {trackBy(e, w, e), 0, false}, {trackBy(e, w, e, w), 27, true}, {trackBy(e, at(110, -1), w), 13, true}} {
		if got, ok := checkFinish(t, c, x.track, 0); got != x.want || ok != x.ok {
			t.Errorf("%v: %d %v, want %d %v", x.track, got, ok, x.want, x.ok)
		}
	}
}

// byLaps returns laps, and the same with marks that are left to starboard.
func byLaps(n int) map[string]impl.Course {
	c, track := laps(n)
	other, _ := mirrored(c, track)
	// In the mirror what is ahead of a line is behind it, and from its other end it is ahead again.
	other.Start, other.Finish = turnedLine(other.Start), turnedLine(other.Finish)
	return map[string]impl.Course{"to port": c, "to starboard": other}
}

func TestFinishByLaps(t *testing.T) {
	for n := 1; n <= impl.MaxMarks; n++ {
		for side, c := range byLaps(n) {
			_, track := laps(n)
			if side == "to starboard" {
				_, track = mirrored(c, track)
			}
			last := len(track) - 1
			for begin := range 3 {
				if got, ok := checkFinish(t, c, track, begin); got != 10*last-5 || !ok {
					t.Errorf("%d marks %s, from %d on: %d %v", n, side, begin, got, ok)
				}
			}
			for _, begin := range append(noIndexes(len(track)), last, last-1, last-2) {
				if got, ok := checkFinish(t, c, track, begin); got != 0 || ok {
					t.Errorf("%d marks %s, from %d on: %d %v", n, side, begin, got, ok)
				}
			}
			if got, ok := checkFinish(t, c, track[:last], 0); got != 0 || ok {
				t.Errorf("%d marks %s, without the last step: %d %v", n, side, got, ok)
			}
			if got, ok := checkFinish(t, byLaps(n + 1)[side], track, 0); got != 0 || ok {
				t.Errorf("%d marks %s, and one more: %d %v", n, side, got, ok)
			}
			checkGuns(t, c, track, map[int]int{0: 10*last - 5, 1: 10*last - 6, 4: 10*last - 9, 5: 10*last - 10}, 6, 7, 10, 100, 10*last)
		}
	}
}

// checkGuns checks RaceTime for some guns: those that are told have a time, and the others, and what
// is no gun, have none.
func checkGuns(t *testing.T, c impl.Course, track []impl.Sight, told map[int]int, others ...int) {
	t.Helper()
	for gun, want := range told {
		if got, ok := checkRace(t, c, track, gun); got != want || !ok {
			t.Errorf("%v, a gun at %d: %d %v, want %d", track, gun, got, ok, want)
		}
	}
	for _, gun := range append(append(others, impl.MaxTime), append(brokenTimes(), math.MinInt+1, math.MaxInt-1)...) {
		if got, ok := checkRace(t, c, track, gun); got != 0 || ok {
			t.Errorf("%v, a gun at %d: %d %v", track, gun, got, ok)
		}
	}
}

func TestRaceOfSmallNumbers(t *testing.T) {
	c := offshore(toPort(100, 0))
	e, w := at(110, 5), at(110, -5)
	high, low, lowWest := at(5, 5), at(-5, 5), at(-5, -5)
	// She starts at 5, rounds at 30, and finishes at 36: half of the step, and rounded up.
	checkGuns(t, c, trackBy(low, high, e, w, at(7, -5), lowWest), map[int]int{0: 46, 1: 45, 4: 42, 5: 41}, 6, 10, 30, 46)
	// She starts at 5, comes back at 15, and starts again at 25: the gun tells which.
	again := trackBy(low, high, low, high, e, w, lowWest)
	checkGuns(t, c, again, map[int]int{0: 60, 5: 55, 6: 54, 15: 45, 20: 40, 25: 35}, 26, 30, 60)
	// Her crossing back is none, nor is one beyond an end, nor one to the line.
	checkGuns(t, c, trackBy(high, low, at(-5, 30), at(5, 30), e, w, lowWest), nil, 0, 5, 15, 25)
	checkGuns(t, c, trackBy(low, at(0, 5), at(-5, 30), at(5, 30), e, w, lowWest), nil, 0, 5, 10)
	// From the line she starts at the second of the sight there.
	checkGuns(t, c, trackBy(low, at(0, 5), high, e, w, lowWest), map[int]int{0: 50, 9: 41, 10: 40}, 11, 15, 20)
	// She rounds the mark between two starts, and again behind the second one.
	checkGuns(t, c, trackBy(low, high, e, w, low, high, e, w, lowWest), map[int]int{0: 80, 5: 75, 6: 74, 45: 35}, 46, 60)
	checkGuns(t, c, trackBy(low, high, e, w, lowWest, low, high, e, w, lowWest), map[int]int{0: 40, 5: 35, 6: 84, 40: 50, 55: 35}, 56, 80)
	// She rounds it ahead of her start alone, or finishes ahead of it alone.
	checkGuns(t, c, trackBy(high, e, w, low, high, at(5, -5), lowWest), nil, 0, 5, 35)
	checkGuns(t, c, trackBy(high, e, w, lowWest, low, high, e, w), nil, 0, 5, 45)
	// She never starts, never rounds, never finishes, or does not sail.
	checkGuns(t, c, trackBy(high, e, w, lowWest), nil, 0, 5)
	checkGuns(t, c, trackBy(low, high, lowWest), nil, 0, 5)
	checkGuns(t, c, trackBy(low, high, e, w), nil, 0, 5)
	checkGuns(t, c, trackBy(low, high), nil, 0, 5)
	checkGuns(t, c, trackBy(low), nil, 0)
	checkGuns(t, c, nil, nil, 0)
}

// A step that starts and passes the ray of the mark does not round it: the mark is looked for from the
// end of that step on.
func TestRaceOfAStartPastTheMark(t *testing.T) {
	c := offshore(toPort(3, 0))
	over, e, lowWest := at(50, -5), at(50, 5), at(-5, -5)
	checkGuns(t, c, trackBy(at(-5, 5), over, lowWest), nil, 0, 1)
	checkGuns(t, c, trackBy(at(-5, 5), over, at(-2, -5), at(-2, 5), e, over, lowWest), map[int]int{0: 60, 1: 59, 2: 58, 31: 29}, 32)
	checkGuns(t, c, trackBy(at(-5, 5), e, over, lowWest), map[int]int{0: 30, 1: 29}, 2)
	// Likewise a step that rounds the mark and crosses the finish does not finish.
	c.Finish = lineFrom(45, -2, 55, -2)
	checkGuns(t, c, trackBy(at(-5, 5), e, over, lowWest), nil, 0, 1)
	checkGuns(t, c, trackBy(at(-5, 5), e, over, e, over), map[int]int{0: 37, 1: 36}, 2)
}

// The earliest and the latest finishes and races, and the longest one.
func TestRaceAtTheEndsOfTime(t *testing.T) {
	const last = impl.MaxTime
	c := offshore(toPort(100, 0))
	// She rounds the mark to a place on the finish, in the first second that there is.
	early := offshore(toPort(100, 0))
	early.Finish = lineFrom(105, -2, 115, -2)
	if got, ok := checkFinish(t, early, []impl.Sight{sight(110, 5, 0), sight(110, -2, 1), sight(110, -3, 2)}, 0); got != 1 || !ok {
		t.Error("a finish at the first second:", got, ok)
	}
	late := trackBy(at(-5, 5), at(5, 5), at(110, 5), at(110, -5), at(7, -5), at(-5, -5))
	for i := range late {
		late[i].Time += last - 50
	}
	checkGuns(t, c, late, map[int]int{0: last - 4, 1: last - 5, last - 50: 46, last - 46: 42, last - 45: 41}, last-44, last-4, last-1)
	long := []impl.Sight{sight(0, 5, 0), sight(5, 5, 1), sight(110, 5, 2), sight(110, -5, 3), sight(10000, -5, last-1), sight(-1, -5, last)}
	checkGuns(t, c, long, map[int]int{0: last}, 1, last-1)
	// She starts at the last second that there is.
	checkGuns(t, c, []impl.Sight{sight(110, 5, 0), sight(110, -5, 1), sight(-1, 5, last-1), sight(10000, 5, last)}, nil, 0, last-1, last)
}

func TestFinishFollowsItsRule(t *testing.T) {
	d, told, none := dice(89), 0, [2]int{}
	for i := range 4000 {
		n := []int{2, 5, 10, 30, 80, impl.MaxTrack}[i%6]
		c, track := wildRace(&d, 1+d.upTo([]int{1, 3, 8}[d.upTo(3)]), n)
		begin := d.upTo(1 + n/3)
		want, fine := finishOf(c, track, begin)
		if got, ok := checkFinish(t, c, track, begin); got != want || ok != fine {
			t.Fatalf("FinishTime(%v, %v, %d): %d %v, want %d %v", c, track, begin, got, ok, want, fine)
		}
		switch {
		case fine:
			told++
		case len(progressOf(c, track, begin)) == len(c.Marks):
			none[0]++
		default:
			none[1]++
		}
	}
	if told < 800 || none[0] < 200 || none[1] < 1000 {
		t.Error("only few tracks finish, or round all marks and do not finish, or do not round them:", told, none)
	}
}

func TestRaceFollowsItsRule(t *testing.T) {
	d, told, later, none := dice(90), 0, 0, 0
	for i := range 1200 {
		n := []int{2, 6, 12, 30, 80, impl.MaxTrack}[i%6]
		c, track := wildRace(&d, 1+d.upTo(3), n)
		first, _ := firstAcross(c.Start, track, 0, 0)
		list := guns(c.Start, track)
		for range 12 {
			gun := list[d.upTo(len(list))]
			want, fine := 0, false
			if gun >= 0 && gun <= impl.MaxTime {
				want, fine = raceOf(c, track, gun)
			}
			if got, ok := checkRace(t, c, track, gun); got != want || ok != fine {
				t.Fatalf("RaceTime(%v, %v, %d): %d %v, want %d %v", c, track, gun, got, ok, want, fine)
			}
			if !fine {
				none++
				continue
			}
			told++
			if begin, _ := firstAcross(c.Start, track, 0, gun); begin != first {
				later++
			}
		}
	}
	if told < 1500 || later < 1000 || none < 2000 {
		t.Error("only few boats race, or start again, or do not race:", told, later, none)
	}
}
