package tests

import (
	"math"
	"math/big"
	"slices"
	"testing"

	"loop.example/g03321/impl"
)

// startOf follows the rule for StartTime, where the line and the track are valid.
func startOf(l impl.Line, track []impl.Sight, gun int) (int, bool) {
	for i, s := range track[:max(0, len(track)-1)] {
		if crossingOf(l, s.At, track[i+1].At) != 1 {
			continue
		}
		if time := timeAcross(l, s, track[i+1]); time >= gun {
			return time, true
		}
	}
	return 0, false
}

// earlyOf tells what EarlyAt must return where the line and the track are valid, by the height that
// the boat has at the gun on the straight way between two sights.
func earlyOf(l impl.Line, track []impl.Sight, gun int) bool {
	for i, s := range track[:max(0, len(track)-1)] {
		next := track[i+1]
		if gun < s.Time || gun > next.Time {
			continue
		}
		from, to := new(big.Rat).SetInt(heightAbove(l, s.At)), new(big.Rat).SetInt(heightAbove(l, next.At))
		height := to.Sub(to, from)
		height.Mul(height, big.NewRat(int64(gun-s.Time), int64(next.Time-s.Time)))
		if height.Add(height, from).Sign() < 0 {
			return true
		}
	}
	return false
}

// waiting returns a track of n sights about a line, that crosses it both ways many times, and often
// has a sight on it.
func waiting(d *dice, l impl.Line, n int) []impl.Sight {
	var track []impl.Sight
	time := d.upTo(5000)
	steps := []int{1, 2, 30, 500, 40000}
	most := steps[d.upTo(len(steps))]
	for len(track) < n {
		p := share(l.Port, l.Starboard, d.upTo(9)-1, 7)
		if d.upTo(5) > 0 {
			p = at(p.X+d.upTo(41)-20, p.Y+d.upTo(41)-20)
		}
		if inSea(p) {
			track = append(track, impl.Sight{At: p, Time: time})
			time += 1 + d.upTo(most)
		}
	}
	return track
}

// startLines returns valid lines about which a track can wait.
func startLines() []impl.Line {
	return append(goodLines(), lineFrom(0, -7, 0, 7), lineFrom(0, 14, 7, 0), lineFrom(-10, 21, 11, 0), lineFrom(300, 300, 307, 307), lineFrom(-9990, -9990, -9983, -9976))
}

// guns returns times about those of a track and of its crossings of a line, and all kinds of others.
func guns(l impl.Line, track []impl.Sight) []int {
	list := []int{math.MinInt, math.MinInt + 1, -1 << 32, -1, 0, 1, impl.MaxTime, impl.MaxTime + 1, 1 << 32, math.MaxInt - 1, math.MaxInt}
	for i, s := range track {
		list = append(list, s.Time-1, s.Time, s.Time+1)
		if i == 0 {
			continue
		}
		before := track[i-1]
		list = append(list, (before.Time+s.Time)/2, before.Time+(s.Time-before.Time)/3)
		if crossingOf(l, before.At, s.At) != 0 {
			time := timeAcross(l, before, s)
			list = append(list, time-1, time, time+1)
		}
	}
	return list
}

// checkStart checks that StartTime and EarlyAt follow their rules, and that nothing is written into
// the track, and returns both.
func checkStart(t *testing.T, l impl.Line, track []impl.Sight, gun int) (int, bool, bool) {
	t.Helper()
	given, whole := spared(track)
	want, fine := startOf(l, track, gun)
	got, ok := impl.StartTime(l, given, gun)
	if got != want || ok != fine {
		t.Fatalf("StartTime(%v, %v, %d): %d %v, want %d %v", l, track, gun, got, ok, want, fine)
	}
	early, wantEarly := impl.EarlyAt(l, given, gun), earlyOf(l, track, gun)
	if early != wantEarly {
		t.Fatalf("EarlyAt(%v, %v, %d): %v, want %v", l, track, gun, early, wantEarly)
	}
	checkSpared(t, track, whole)
	return got, ok, early
}

func TestStartOfSmallNumbers(t *testing.T) {
	l := lineFrom(0, -10, 0, 10)
	// She crosses at 5, is back at 15, crosses at 25, goes back beyond an end, passes along the line, and
	// crosses from it at 60.
	track := []impl.Sight{sight(-5, 0, 0), sight(5, 0, 10), sight(-5, 0, 20), sight(5, 4, 30), sight(5, 30, 40), sight(-5, 30, 50), sight(0, 3, 60), sight(5, 3, 70), sight(5, -30, 80), sight(-5, -30, 90), sight(5, -30, 100)}
	starts := map[int]int{math.MinInt: 5, -1: 5, 0: 5, 4: 5, 5: 5, 6: 25, 15: 25, 20: 25, 24: 25, 25: 25, 26: 60, 35: 60, 59: 60, 60: 60}
	for _, gun := range []int{math.MinInt, -1, 0, 4, 5, 6, 15, 20, 24, 25, 26, 35, 59, 60, 61, 70, 95, 100, 101, impl.MaxTime, math.MaxInt} {
		want, fine := starts[gun]
		if got, ok, _ := checkStart(t, l, track, gun); got != want || ok != fine {
			t.Errorf("gun at %d: %d %v, want %d %v", gun, got, ok, want, fine)
		}
	}
	early := func(low, high int) {
		t.Helper()
		for gun := low; gun <= high; gun++ {
			if _, _, got := checkStart(t, l, track, gun); !got {
				t.Errorf("not early at %d", gun)
			}
		}
	}
	late := func(low, high int) {
		t.Helper()
		for gun := low; gun <= high; gun++ {
			if _, _, got := checkStart(t, l, track, gun); got {
				t.Errorf("early at %d", gun)
			}
		}
	}
	late(-100, 5)
	early(6, 14)
	late(15, 25)
	// Ahead of what goes on beyond the ends she is early, too.
	early(26, 44)
	late(45, 60)
	early(61, 84)
	late(85, 95)
	early(96, 100)
	late(101, 200)
}

// The second of a start is rounded up, so that a boat may be early at the second at which she starts.
func TestStartWithinASecond(t *testing.T) {
	l := lineFrom(0, -10, 0, 10)
	cases := []struct {
		track []impl.Sight
		gun   int
		time  int
		ok    bool
		early bool
	}{
		{[]impl.Sight{sight(-5, 0, 0), sight(6, 0, 10)}, 4, 5, true, false}, {[]impl.Sight{sight(-5, 0, 0), sight(6, 0, 10)}, 5, 5, true, true}, {[]impl.Sight{sight(-5, 0, 0), sight(6, 0, 10)}, 6, 0, false, true},
		{[]impl.Sight{sight(-6, 0, 0), sight(5, 0, 10)}, 5, 6, true, false}, {[]impl.Sight{sight(-6, 0, 0), sight(5, 0, 10)}, 6, 6, true, true},
		{[]impl.Sight{sight(-5, 0, 0), sight(5, 0, 10)}, 5, 5, true, false}, {[]impl.Sight{sight(-5, 0, 0), sight(5, 0, 10)}, 6, 0, false, true},
		{[]impl.Sight{sight(-5, 0, 8), sight(5, 0, 9)}, 8, 9, true, false}, {[]impl.Sight{sight(-5, 0, 8), sight(5, 0, 9)}, 9, 9, true, true}, {[]impl.Sight{sight(-5, 0, 8), sight(5, 0, 9)}, 10, 0, false, false},
		{[]impl.Sight{sight(0, 0, 8), sight(5, 0, 9)}, 8, 8, true, false}, {[]impl.Sight{sight(0, 0, 8), sight(5, 0, 9)}, 9, 0, false, true}, {[]impl.Sight{sight(0, 0, 8), sight(5, 0, 9)}, 7, 8, true, false},
		// She comes back, and is not early any more as soon as she is on the line.
		{[]impl.Sight{sight(5, 0, 0), sight(-5, 0, 10)}, 4, 0, false, true}, {[]impl.Sight{sight(5, 0, 0), sight(-5, 0, 10)}, 5, 0, false, false}, {[]impl.Sight{sight(5, 0, 0), sight(0, 0, 10)}, 9, 0, false, true}, {[]impl.Sight{sight(5, 0, 0), sight(0, 0, 10)}, 10, 0, false, false},
		// She does not move.
		{[]impl.Sight{sight(5, 0, 0), sight(5, 0, 10)}, 5, 0, false, true}, {[]impl.Sight{sight(5, 0, 0), sight(5, 0, 10)}, -1, 0, false, false}, {[]impl.Sight{sight(5, 0, 0), sight(5, 0, 10)}, 11, 0, false, false}, {[]impl.Sight{sight(0, 0, 0), sight(0, 0, 10)}, 5, 0, false, false}, {[]impl.Sight{sight(-5, 0, 0), sight(-5, 0, 10)}, 5, 0, false, false},
		// She is far beyond the ends, or a metre beyond one.
		{[]impl.Sight{sight(-5, 9000, 0), sight(5, 9000, 10)}, 7, 0, false, true}, {[]impl.Sight{sight(-5, 11, 0), sight(5, 11, 10)}, 5, 0, false, false}, {[]impl.Sight{sight(-5, 10, 0), sight(5, 10, 10)}, 5, 5, true, false},
		// No sights, and one.
		{nil, 0, 0, false, false}, {[]impl.Sight{}, 5, 0, false, false}, {[]impl.Sight{sight(5, 0, 7)}, 7, 0, false, false}, {[]impl.Sight{sight(0, 0, 7)}, 7, 0, false, false}, {[]impl.Sight{sight(5, 0, 0)}, 0, 0, false, false},
	}
	for _, c := range cases {
		if time, ok, early := checkStart(t, l, c.track, c.gun); time != c.time || ok != c.ok || early != c.early {
			t.Errorf("%v, gun at %d: %d %v %v, want %d %v %v", c.track, c.gun, time, ok, early, c.time, c.ok, c.early)
		}
	}
}

func TestStartFollowsItsRule(t *testing.T) {
	d := dice(77)
	var started, late, early, notEarly, again int
	look := func(l impl.Line, track []impl.Sight, list []int) {
		t.Helper()
		first, _ := startOf(l, track, math.MinInt)
		for _, gun := range list {
			time, ok, ahead := checkStart(t, l, track, gun)
			if ok {
				started++
			} else {
				late++
			}
			if ok && time != first {
				again++
			}
			if ahead {
				early++
			} else {
				notEarly++
			}
		}
	}
	for _, l := range startLines() {
		for _, n := range []int{0, 1, 2, 3, 4, 6, 9} {
			for range 12 {
				track := waiting(&d, l, n)
				look(l, track, guns(l, track))
			}
		}
	}
	for _, l := range startLines()[:8] {
		track := waiting(&d, l, impl.MaxTrack)
		list := guns(l, track)
		for range 20 {
			look(l, track, list[d.upTo(len(list)):][:1])
		}
	}
	for _, track := range goodTracks() {
		look(lineFrom(-4900, 10000, -4900, -10000), track, []int{math.MinInt, 0, 100, impl.MaxTime - 1, impl.MaxTime, math.MaxInt})
	}
	if started < 5000 || late < 5000 || early < 5000 || notEarly < 5000 || again < 1000 {
		t.Error("only few boats start, or do not, or start again, or are early, or are not:", started, late, again, early, notEarly)
	}
}

// At the time of a sight of a track of two sights at least a boat is early exactly if she is ahead.
func TestEarlyAtTheTimeOfASight(t *testing.T) {
	d := dice(78)
	var sides [3]int
	for _, l := range startLines() {
		for _, n := range []int{2, 3, 5, 40, impl.MaxTrack} {
			for _, track := range [][]impl.Sight{waiting(&d, l, n), pacing(n)} {
				for _, s := range track {
					side := sideOf(l, s.At)
					sides[1+side]++
					if got := impl.EarlyAt(l, track, s.Time); got != (side == 1) || impl.SideOf(l, s.At) != side {
						t.Fatalf("EarlyAt(%v, %v, %d): %v on the side %d", l, track, s.Time, got, side)
					}
				}
			}
		}
	}
	for _, side := range sides {
		if side < 1000 {
			t.Error("only few sights on one side:", sides)
		}
	}
}

// Over the longest steps, too, a boat is early up to the last second ahead of her crossing, or from the
// first one behind it.
func TestEarlyAboutTheCrossingOfALongStep(t *testing.T) {
	d := dice(82)
	var told [2]int
	for range 3000 {
		l, a, b := longStep(&d)
		from := impl.Sight{At: a, Time: d.upTo(1000)}
		to := impl.Sight{At: b, Time: impl.MaxTime - d.upTo(1000)}
		track := []impl.Sight{from, to}
		time := timeAcross(l, from, to)
		for gun := time - 2; gun <= time+2; gun++ {
			if _, _, early := checkStart(t, l, track, gun); early {
				told[0]++
			} else {
				told[1]++
			}
		}
	}
	if told[0] < 3000 || told[1] < 3000 {
		t.Error("only few boats are early, or are not:", told)
	}
}

// A track that is cut in the middle of each step starts, and is early, as it did.
func TestStartOfATrackThatIsCut(t *testing.T) {
	d, started := dice(79), 0
	for _, l := range startLines() {
		for range 20 {
			track := waiting(&d, l, 2+d.upTo(20))
			for i := range track {
				// Differences that are even.
				track[i].Time, track[i].At.X, track[i].At.Y = 2*track[i].Time, track[i].At.X&^1, track[i].At.Y&^1
			}
			cut := track[:1:1]
			for i, s := range track[1:] {
				before := track[i]
				cut = append(cut, sight((before.At.X+s.At.X)/2, (before.At.Y+s.At.Y)/2, (before.Time+s.Time)/2), s)
			}
			for _, gun := range guns(l, track) {
				got, ok := impl.StartTime(l, cut, gun)
				if want, fine := impl.StartTime(l, track, gun); got != want || ok != fine || impl.EarlyAt(l, cut, gun) != impl.EarlyAt(l, track, gun) {
					t.Fatalf("%v, cut: StartTime across %v, gun at %d: %d %v, want %d %v", track, l, gun, got, ok, want, fine)
				}
				if ok {
					started++
				}
			}
		}
	}
	if started < 5000 {
		t.Error("only few boats start:", started)
	}
}

// checkNoStart checks that there is no start across a line that is not valid, or of a track that is
// not, and that nothing is written into the track.
func checkNoStart(t *testing.T, l impl.Line, track []impl.Sight, gun int) {
	t.Helper()
	given, whole := spared(track)
	if got, ok := impl.StartTime(l, given, gun); got != 0 || ok {
		t.Errorf("StartTime(%v, %v, %d): %d %v", l, track, gun, got, ok)
	}
	if impl.EarlyAt(l, given, gun) {
		t.Errorf("EarlyAt(%v, %v, %d)", l, track, gun)
	}
	checkSpared(t, track, whole)
}

// The boats are early and start, if what is not valid is left away, or taken as it is.
func TestStartOfWhatIsNotValid(t *testing.T) {
	track := []impl.Sight{sight(-5, 0, 10), sight(5, 0, 20), sight(-5, 0, 30), sight(5, 0, 40)}
	for _, broken := range brokenLines() {
		for _, gun := range []int{math.MinInt, 10, 20, 30, 37, 40} {
			checkNoStart(t, broken, track, gun)
		}
	}
	l := lineFrom(0, -10, 0, 10)
	spoil := func(i int, change func(s *impl.Sight)) {
		t.Helper()
		broken := slices.Clone(track)
		change(&broken[i])
		for _, gun := range []int{math.MinInt, 0, 20, 37, 38, 40} {
			checkNoStart(t, l, broken, gun)
			checkNoStart(t, l, broken, broken[i].Time)
		}
	}
	for i := range track {
		for _, bad := range brokenParts() {
			spoil(i, func(s *impl.Sight) { s.At.X = bad })
			spoil(i, func(s *impl.Sight) { s.At.Y = bad })
		}
		for _, bad := range append(brokenTimes(), math.MinInt+1, math.MaxInt-1) {
			spoil(i, func(s *impl.Sight) { s.Time = bad })
		}
		if i > 0 {
			for aside := range 11 {
				spoil(i, func(s *impl.Sight) { s.Time = 10*i - aside })
			}
		}
	}
	for _, broken := range brokenTracks() {
		for _, gun := range []int{math.MinInt, 0, 105, 1000, math.MaxInt} {
			checkNoStart(t, lineFrom(-4900, 10000, -4900, -10000), broken, gun)
			checkNoStart(t, lineFrom(-4900, -10000, -4900, 10000), broken, gun)
		}
	}
	// One sight more than a track may have.
	long := waiting(new(dice), l, impl.MaxTrack+1)
	for _, gun := range guns(l, long) {
		checkNoStart(t, l, long, gun)
	}
	if _, ok := impl.StartTime(l, long[1:], 0); !ok {
		t.Error("no start of a track that is as long as may be")
	}
}
