package tests

import (
	"math"
	"slices"
	"testing"

	"loop.example/g03321/impl"
)

// roundOf follows the rule for RoundedAt, where the course and the track are valid, and there are such
// a mark and such a sight.
func roundOf(c impl.Course, k int, track []impl.Sight, begin int) int {
	origin, want := c.Start.Port, 1
	if k > 0 {
		origin = c.Marks[k-1].At
	}
	if c.Marks[k].Starboard {
		want = -1
	}
	for i, sum := begin+1, 0; i < len(track); i++ {
		sum += passOf(origin, c.Marks[k].At, track[i-1].At, track[i].At)
		if sum == want {
			return i
		}
	}
	return -1
}

// progressOf follows the rule for Progress, likewise.
func progressOf(c impl.Course, track []impl.Sight, begin int) []int {
	list := []int{}
	for k := range c.Marks {
		begin = roundOf(c, k, track, begin)
		if begin < 0 {
			break
		}
		list = append(list, begin)
	}
	return list
}

// clipped returns copies of a course and a track that have no room behind their last elements.
func clipped(c impl.Course, track []impl.Sight) (impl.Course, []impl.Sight) {
	c.Marks = slices.Clip(slices.Clone(c.Marks))
	return c, slices.Clip(slices.Clone(track))
}

// checkRounded returns RoundedAt, after a look that nothing is written into the arguments, and that
// nothing behind them counts.
func checkRounded(t *testing.T, c impl.Course, k int, track []impl.Sight, begin int) int {
	t.Helper()
	given, marks := sparedCourse(c)
	sights, whole := spared(track)
	got := impl.RoundedAt(given, k, sights, begin)
	checkSparedCourse(t, c, marks)
	checkSpared(t, track, whole)
	given, sights = clipped(c, track)
	if alone := impl.RoundedAt(given, k, sights, begin); alone != got {
		t.Fatalf("RoundedAt(%v, %d, %v, %d): %d, and without room %d", c, k, track, begin, got, alone)
	}
	return got
}

// checkProgress returns Progress, after the same looks, and one that the result is new.
func checkProgress(t *testing.T, c impl.Course, track []impl.Sight, begin int) []int {
	t.Helper()
	given, marks := sparedCourse(c)
	sights, whole := spared(track)
	got := impl.Progress(given, sights, begin)
	kept, again := slices.Clone(got), impl.Progress(given, sights, begin)
	if !slices.Equal(again, kept) {
		t.Fatalf("Progress(%v, %v, %d): %v, and then %v", c, track, begin, kept, again)
	}
	for i := range again[:cap(again)] {
		again[:cap(again)][i] = -55
	}
	if !slices.Equal(got, kept) {
		t.Fatalf("Progress(%v, %v, %d): %v has become %v", c, track, begin, kept, got)
	}
	if last := impl.Progress(given, sights, begin); !slices.Equal(last, kept) {
		t.Fatalf("Progress(%v, %v, %d): %v, and then %v", c, track, begin, kept, last)
	}
	checkSparedCourse(t, c, marks)
	checkSpared(t, track, whole)
	given, sights = clipped(c, track)
	if alone := impl.Progress(given, sights, begin); !slices.Equal(got, alone) {
		t.Fatalf("Progress(%v, %v, %d): %v, and without room %v", c, track, begin, got, alone)
	}
	return got
}

// offshore returns a course whose first origin is (0, 0).
func offshore(marks ...impl.Mark) impl.Course {
	return impl.Course{Start: lineFrom(0, 0, 0, 20), Marks: marks, Finish: lineFrom(0, 0, 0, -20)}
}

// trackBy returns a track by these places, a sight every ten seconds.
func trackBy(places ...impl.Place) []impl.Sight {
	track := []impl.Sight{}
	for i, p := range places {
		track = append(track, impl.Sight{At: p, Time: 10 * i})
	}
	return track
}

// lettered returns a track about a mark at (10, 0) whose ray goes on to the north: E, W and O lie in
// the east of the ray, in the west of it, and on it; A and B in the east and in the west of the way
// to the mark; M is the mark.
func lettered(text string) []impl.Sight {
	places := map[rune]impl.Place{'E': at(20, 5), 'W': at(20, -5), 'O': at(20, 0), 'A': at(5, 5), 'B': at(5, -5), 'M': at(10, 0)}
	list := []impl.Place{}
	for _, letter := range text {
		list = append(list, places[letter])
	}
	return trackBy(list...)
}

func TestRoundedAtOfSmallNumbers(t *testing.T) {
	cases := []struct {
		track           string
		port, starboard int
	}{
		{"EW", 1, -1}, {"WE", -1, 1}, {"AEWB", 2, -1}, {"BWEA", -1, 2}, {"AB", -1, -1}, {"BA", -1, -1}, {"AE", -1, -1}, {"WB", -1, -1}, {"", -1, -1}, {"E", -1, -1}, {"O", -1, -1},
		// It does not move.
		{"EE", -1, -1}, {"EEEWWW", 3, -1}, {"OO", -1, -1}, {"MM", -1, -1}, {"WWE", -1, 2},
		// From the ray, to it, along it, and over it in two steps.
		{"EO", 1, -1}, {"OW", -1, -1}, {"OE", -1, 1}, {"WO", -1, -1}, {"EOW", 1, -1}, {"WOE", -1, 2}, {"WOW", -1, -1}, {"EOE", 1, -1}, {"OEW", -1, 1}, {"OEOE", -1, 1}, {"OMO", -1, -1}, {"OEWBAEW", 6, 1},
		// Through the mark, and from it and to it.
		{"AMB", 1, -1}, {"BMA", -1, 2}, {"AM", 1, -1}, {"MA", -1, 1}, {"BM", -1, -1}, {"MB", -1, -1}, {"EM", 1, -1}, {"ME", -1, 1},
		// The wrong way round first: the sum comes back to 0, and goes on to 1, or to -1.
		{"WEW", -1, 1}, {"EWE", 1, -1}, {"WEWBAEW", 6, 1}, {"EWEABWE", 1, 6}, {"WEABWEWBAEW", -1, 1}, {"WEABWEWBAEWBAEW", 14, 1}, {"EWBAEWEABWE", 1, -1},
		// Beyond 1, and back from there: 1, 2, 1, 0, -1.
		{"EWBAEWEABWEABWE", 1, 14}, {"EWBAEWBAEW", 1, -1}, {"WEABWEABWE", -1, 1},
		// Round and round, and to and fro.
		{"EWEWEWEW", 1, -1}, {"WEWEWEWE", -1, 1}, {"ABWE", -1, 3}, {"BAEW", 3, -1}, {"ABABAEW", 6, -1}, {"BABABWE", -1, 6},
	}
	for _, c := range cases {
		track := lettered(c.track)
		for starboard, want := range map[bool]int{false: c.port, true: c.starboard} {
			course := offshore(impl.Mark{At: at(10, 0), Starboard: starboard})
			if got := checkRounded(t, course, 0, track, 0); got != want {
				t.Errorf("%s, to starboard %v: %d, want %d", c.track, starboard, got, want)
			}
			// The same behind some sights that are not looked at.
			late := append(lettered("EWEBAM"), track...)
			for i := range late {
				late[i].Time = 10 * i
			}
			if len(track) > 0 && want >= 0 {
				want += 6
			}
			if got := checkRounded(t, course, 0, late, 6); got != want {
				t.Errorf("%s, to starboard %v, from 6 on: %d, want %d", c.track, starboard, got, want)
			}
		}
	}
}

// Whatever begin is, it is an int: the least one, the greatest one, and those about the ends.
func TestRoundedAtFromASight(t *testing.T) {
	track, port, starboard := lettered("EWBAEWBAEWEABWE"), offshore(toPort(10, 0)), offshore(toStarboard(10, 0))
	// To port from each sight on; to starboard the sum goes down at 10 and at 14.
	toPortAt := []int{1, 5, 5, 5, 5, 9, 9, 9, 9, -1, -1, -1, -1, -1, -1}
	toStarboardAt := []int{-1, -1, -1, -1, -1, 14, 14, 14, 14, 10, 14, 14, 14, 14, -1}
	for begin := range track {
		if got := checkRounded(t, port, 0, track, begin); got != toPortAt[begin] {
			t.Errorf("to port, from %d on: %d, want %d", begin, got, toPortAt[begin])
		}
		if got := checkRounded(t, starboard, 0, track, begin); got != toStarboardAt[begin] {
			t.Errorf("to starboard, from %d on: %d, want %d", begin, got, toStarboardAt[begin])
		}
	}
	for _, begin := range noIndexes(len(track)) {
		for _, c := range []impl.Course{port, starboard} {
			if got := checkRounded(t, c, 0, track, begin); got != -1 {
				t.Errorf("from %d on: %d", begin, got)
			}
			if got := checkProgress(t, c, track, begin); len(got) != 0 {
				t.Errorf("from %d on: %v", begin, got)
			}
		}
	}
	for _, begin := range append(noIndexes(0), 0) {
		if got, list := checkRounded(t, port, 0, nil, begin), checkProgress(t, port, nil, begin); got != -1 || len(list) != 0 {
			t.Errorf("of no track, from %d on: %d %v", begin, got, list)
		}
	}
}

// noIndexes returns numbers that refer to no element of a list of n.
func noIndexes(n int) []int {
	return []int{-1, -2, -n, -n - 1, n, n + 1, n + 200, 1 << 32, -1 << 32, 1<<32 + 1, -1 << 62, math.MinInt, math.MinInt + 1, math.MinInt + n, math.MaxInt, math.MaxInt - 1, math.MaxInt - n}
}

// There is no mark of such a number, and of those that there are, each has a ray of its own.
func TestRoundedAtOfEachMark(t *testing.T) {
	for n := 1; n <= impl.MaxMarks; n++ {
		c, track := laps(n)
		for k := range n {
			want := 3
			if k%2 == 1 {
				want = 5
			}
			if got := checkRounded(t, c, k, track, 0); got != want {
				t.Errorf("the mark %d of %d: %d, want %d", k, n, got, want)
			}
			if got := checkRounded(t, c, k, track, 2*k+1); got != 2*k+3 {
				t.Errorf("the mark %d of %d, from %d on: %d", k, n, 2*k+1, got)
			}
		}
		for _, k := range noIndexes(n) {
			for _, begin := range []int{0, 1, len(track) - 1, -1} {
				if got := checkRounded(t, c, k, track, begin); got != -1 {
					t.Errorf("the mark %d of %d: %d", k, n, got)
				}
			}
		}
	}
}

// laps returns a course of n marks, in the north and in the south by turns, all left to port, and a
// track that starts at 5, rounds the mark k at the sight 2k + 3, and finishes by its last step, five
// seconds ahead of its end. The finish is crossed on the way from each mark in the north, too.
func laps(n int) (impl.Course, []impl.Sight) {
	c, places := offshore(), []impl.Place{at(-5, 5), at(5, 5)}
	for k := range n {
		side := 1 - k%2*2
		c.Marks = append(c.Marks, toPort(100*side, 0))
		places = append(places, at(110*side, 5*side), at(110*side, -5*side))
	}
	return c, trackBy(append(places, at(5, -5), at(-5, -5))...)
}

// mirrored returns a course and a track as seen in a mirror, so that marks are left on the other side.
func mirrored(c impl.Course, track []impl.Sight) (impl.Course, []impl.Sight) {
	turn := func(p impl.Place) impl.Place { return at(p.X, -p.Y) }
	other := impl.Course{Start: impl.Line{Port: turn(c.Start.Port), Starboard: turn(c.Start.Starboard)}, Finish: impl.Line{Port: turn(c.Finish.Port), Starboard: turn(c.Finish.Starboard)}}
	for _, m := range c.Marks {
		other.Marks = append(other.Marks, impl.Mark{At: turn(m.At), Starboard: !m.Starboard})
	}
	sights := []impl.Sight{}
	for _, s := range track {
		sights = append(sights, impl.Sight{At: turn(s.At), Time: s.Time})
	}
	return other, sights
}

// ascending returns n numbers from first on, each by 2 greater than the one before it.
func ascending(first, n int) []int {
	list := []int{}
	for i := range n {
		list = append(list, first+2*i)
	}
	return list
}

func TestProgressByLaps(t *testing.T) {
	for n := 1; n <= impl.MaxMarks; n++ {
		c, track := laps(n)
		other, sights := mirrored(c, track)
		wants := map[int][]int{0: ascending(3, n), 1: ascending(3, n), 2: ascending(3, n), len(track) - 1: {}, len(track) - 2: {}, len(track): {}, -1: {}}
		if n > 1 {
			// The first mark is looked for in the next lap.
			wants[3], wants[4] = ascending(7, n-2), ascending(7, n-2)
		}
		for begin, want := range wants {
			if got := checkProgress(t, c, track, begin); !slices.Equal(got, want) {
				t.Errorf("%d marks, from %d on: %v, want %v", n, begin, got, want)
			}
			if got := checkProgress(t, other, sights, begin); !slices.Equal(got, want) {
				t.Errorf("%d marks to starboard, from %d on: %v, want %v", n, begin, got, want)
			}
		}
		// Some marks but not all: the track ends there.
		for k := range n {
			for _, more := range []int{0, 1} {
				if got := checkProgress(t, c, track[:2*k+3+more], 0); !slices.Equal(got, ascending(3, k+more)) {
					t.Errorf("%d marks, %d sights: %v", n, 2*k+3+more, got)
				}
			}
		}
		// A mark that is left on the wrong side is none that is rounded, and neither is one behind it.
		for k := range n {
			wrong, _ := sparedCourse(c)
			wrong.Marks[k].Starboard = true
			if got := checkProgress(t, wrong, track, 0); !slices.Equal(got, ascending(3, k)) {
				t.Errorf("%d marks, %d to starboard: %v", n, k, got)
			}
		}
	}
}

// A mark is looked for from the end of the step that rounds the one before it: not by that step, but
// by the very next one.
func TestProgressFromOneMarkToTheNext(t *testing.T) {
	// Both rays lie on one line, and steps at 30 pass them both.
	both := func(a, b impl.Mark) impl.Course { return offshore(a, b) }
	near, far := toPort(10, 0), toPort(20, 0)
	nearRight, farRight := toStarboard(10, 0), toStarboard(20, 0)
	e, w, a, b := at(30, 5), at(30, -5), at(5, 5), at(5, -5)
	cases := []struct {
		c     impl.Course
		track []impl.Sight
		want  []int
	}{
		{both(near, far), trackBy(e, w), []int{1}}, {both(near, far), trackBy(e, w, b, a, e, w), []int{1, 5}}, {both(near, far), trackBy(e, w, e, w), []int{1}}, {both(near, far), trackBy(e, w, e, w, b, a, e, w), []int{1, 7}},
		{both(near, farRight), trackBy(e, w), []int{1}}, {both(near, farRight), trackBy(e, w, e), []int{1, 2}}, {both(nearRight, far), trackBy(w, e, w), []int{1, 2}}, {both(nearRight, farRight), trackBy(w, e, a, b, w, e), []int{1, 5}},
		// Between both marks a step passes the ray of the first one alone.
		{both(near, far), trackBy(at(15, 5), at(15, -5)), []int{1}}, {both(near, far), trackBy(at(15, 5), at(15, -5), e, w), []int{1}}, {both(near, farRight), trackBy(at(15, 5), at(15, -5), w, e), []int{1, 3}},
		// A mark that is passed ahead of the one before it is not rounded by that.
		{both(near, farRight), trackBy(w, e, w), []int{}}, {both(near, farRight), trackBy(w, e, a, b, at(15, -5), at(15, 5), at(15, -5), b, a, at(15, 5), at(15, -5)), []int{}},
		// Two marks that are alike, with another one between them.
		{offshore(near, toPort(-10, 0), near), trackBy(e, w, at(-30, -5), at(-30, 5), e, w), []int{1, 3, 5}}, {offshore(near, toPort(-10, 0), near), trackBy(e, w, b, a, e, w), []int{1}}, {offshore(near, toPort(-10, 0), nearRight), trackBy(e, w, at(-30, -5), at(-30, 5), e, w), []int{1, 3}}, {offshore(near, toPort(-10, 0), nearRight), trackBy(e, w, at(-30, -5), at(-30, 5), b, w, e), []int{1, 3, 6}},
		// The last mark at the last sight, and none at all.
		{both(near, far), trackBy(a, e, w, b, a, e, w), []int{2, 6}}, {both(near, far), trackBy(a, e, w, b, a, e), []int{2}}, {both(near, far), trackBy(a, b, a, b), []int{}}, {both(near, far), nil, []int{}}, {both(near, far), trackBy(e), []int{}},
	}
	for _, c := range cases {
		if got := checkProgress(t, c.c, c.track, 0); !slices.Equal(got, c.want) {
			t.Errorf("Progress(%v, %v, 0): %v, want %v", c.c, c.track, got, c.want)
		}
	}
}

// wildRace returns a course of n marks about which a track of so many sights sails here and there, so
// that it passes their rays, and crosses the lines, many times.
func wildRace(d *dice, n, sights int) (impl.Course, []impl.Sight) {
	somewhere := func(most int) impl.Place { return at(d.upTo(2*most+1)-most, d.upTo(2*most+1)-most) }
	other := func(p impl.Place, most int) impl.Place {
		q := somewhere(most)
		for q == p {
			q = somewhere(most)
		}
		return q
	}
	c := impl.Course{Start: impl.Line{Port: somewhere(5)}, Finish: impl.Line{Port: somewhere(5)}}
	c.Start.Starboard, c.Finish.Starboard = other(c.Start.Port, 5), other(c.Finish.Port, 5)
	origin := c.Start.Port
	for range n {
		origin = other(origin, 3)
		c.Marks = append(c.Marks, impl.Mark{At: origin, Starboard: d.upTo(2) == 0})
	}
	track, time := []impl.Sight{}, d.upTo(50)
	for range sights {
		track = append(track, impl.Sight{At: somewhere(7), Time: time})
		time += 1 + d.upTo(20)
	}
	return c, track
}

// checkBehind checks that where a mark is rounded, at a sight that is told, does not hang on what the
// track does behind it.
func checkBehind(t *testing.T, d *dice, c impl.Course, k int, track []impl.Sight, begin, told int) {
	t.Helper()
	if got := impl.RoundedAt(c, k, track[:told+1], begin); got != told {
		t.Fatalf("RoundedAt(%v, %d, %v, %d): %d, want %d", c, k, track[:told+1], begin, got, told)
	}
	if got := impl.RoundedAt(c, k, track[:told], begin); got != -1 {
		t.Fatalf("RoundedAt(%v, %d, %v, %d): %d, want none", c, k, track[:told], begin, got)
	}
	other := slices.Clone(track[:told+1])
	for range d.upTo(20) {
		last := other[len(other)-1]
		other = append(other, sight(d.upTo(15)-7, d.upTo(15)-7, last.Time+1+d.upTo(9)))
	}
	if len(other) > impl.MaxTrack {
		other = other[:impl.MaxTrack]
	}
	if got := impl.RoundedAt(c, k, other, begin); got != told {
		t.Fatalf("RoundedAt(%v, %d, %v, %d): %d, want %d", c, k, other, begin, got, told)
	}
}

func TestRoundedAtFollowsItsRule(t *testing.T) {
	d, told, none := dice(86), [2]int{}, 0
	for i := range 1500 {
		n := []int{0, 1, 2, 3, 5, 8, 13, 40, impl.MaxTrack}[i%9]
		c, track := wildRace(&d, 1+d.upTo([]int{1, 4, impl.MaxMarks}[d.upTo(3)]), n)
		for range 8 {
			k, begin := d.upTo(len(c.Marks)), d.upTo(n+1)
			want := roundOf(c, k, track, begin)
			if got := checkRounded(t, c, k, track, begin); got != want {
				t.Fatalf("RoundedAt(%v, %d, %v, %d): %d, want %d", c, k, track, begin, got, want)
			}
			if want < 0 {
				none++
				continue
			}
			told[want%2]++
			checkBehind(t, &d, c, k, track, begin, want)
		}
	}
	if told[0] < 1000 || told[1] < 1000 || none < 3000 {
		t.Error("only few marks are rounded, or are not:", told, none)
	}
}

func TestProgressFollowsItsRule(t *testing.T) {
	d, all, some, none := dice(87), 0, 0, 0
	for i := range 1500 {
		n := []int{0, 1, 2, 4, 10, 30, 80, impl.MaxTrack}[i%8]
		c, track := wildRace(&d, 1+d.upTo([]int{1, 4, impl.MaxMarks}[d.upTo(3)]), n)
		begin := d.upTo(1 + n/2)
		got, want := checkProgress(t, c, track, begin), progressOf(c, track, begin)
		if !slices.Equal(got, want) {
			t.Fatalf("Progress(%v, %v, %d): %v, want %v", c, track, begin, got, want)
		}
		switch len(want) {
		case 0:
			none++
		case len(c.Marks):
			all++
		default:
			some++
		}
		// One behind the other, each from where the one before it was rounded; and as far as the track has
		// come, it does not hang on what comes behind.
		last := begin
		for k, sight := range got {
			if sight <= last || sight >= n || sight != impl.RoundedAt(c, k, track, last) {
				t.Fatalf("Progress(%v, %v, %d): %v", c, track, begin, got)
			}
			last = sight
			if part := impl.Progress(c, track[:sight+1], begin); !slices.Equal(part, got[:k+1]) {
				t.Fatalf("Progress(%v, %v, %d): %v, want %v", c, track[:sight+1], begin, part, got[:k+1])
			}
		}
		if len(got) < len(c.Marks) && begin < n && impl.RoundedAt(c, len(got), track, last) != -1 {
			t.Fatalf("Progress(%v, %v, %d) ends at %v", c, track, begin, got)
		}
	}
	if all < 200 || some < 200 || none < 200 {
		t.Error("only few courses are sailed to their end, or in part, or not at all:", all, some, none)
	}
}

// A track that is cut in the middle of each step rounds a mark by the half of the step by which it did.
func TestRoundedAtOfATrackThatIsCut(t *testing.T) {
	d := dice(88)
	var halves [2]int
	for range 1500 {
		c, track := wildRace(&d, 1+d.upTo(4), 2+d.upTo(impl.MaxTrack/2-1))
		cut := []impl.Sight{}
		for i := range track {
			// Differences that are even.
			track[i].Time, track[i].At.X, track[i].At.Y = 2*track[i].Time, track[i].At.X&^1, track[i].At.Y&^1
			if i > 0 {
				before := track[i-1]
				middle, _ := cutStep(before.At, track[i].At)
				cut = append(cut, impl.Sight{At: middle, Time: (before.Time + track[i].Time) / 2})
			}
			cut = append(cut, track[i])
		}
		k, begin := d.upTo(len(c.Marks)), d.upTo(len(track))
		want, got := impl.RoundedAt(c, k, track, begin), impl.RoundedAt(c, k, cut, 2*begin)
		if want < 0 && got != -1 || want >= 0 && got != 2*want && got != 2*want-1 {
			t.Fatalf("RoundedAt(%v, %d, %v, %d): %d, and cut: %d", c, k, track, begin, want, got)
		}
		if want >= 0 {
			halves[got%2]++
		}
	}
	if halves[0] < 300 || halves[1] < 300 {
		t.Error("only few halves round a mark:", halves)
	}
}

// race is a course and a track.
type race struct {
	c     impl.Course
	track []impl.Sight
}

// brokenRaces returns courses that are not valid with tracks that sail around their marks, and valid
// ones with tracks that are not, by what makes them so.
func brokenRaces() map[string]race {
	list := map[string]race{}
	add := func(name string, n int, change func(c *impl.Course, track *[]impl.Sight)) {
		c, track := laps(n)
		change(&c, &track)
		list[name] = race{c, track}
	}
	add("too many marks", impl.MaxMarks+1, func(c *impl.Course, track *[]impl.Sight) {})
	add("no marks", 0, func(c *impl.Course, track *[]impl.Sight) {})
	add("too many sights", 3, func(c *impl.Course, track *[]impl.Sight) {
		for len(*track) <= impl.MaxTrack {
			last := (*track)[len(*track)-1]
			*track = append(*track, sight(last.At.X-1, last.At.Y, last.Time+10))
		}
	})
	add("too many sights, and no mark", 0, func(c *impl.Course, track *[]impl.Sight) { *track = pacing(impl.MaxTrack + 1) })
	for k := range 3 {
		add("a mark twice: "+numbers(k), 3, func(c *impl.Course, track *[]impl.Sight) { c.Marks = slices.Insert(c.Marks, k, c.Marks[k]) })
	}
	add("a mark at the start", 2, func(c *impl.Course, track *[]impl.Sight) { c.Start = lineFrom(100, 0, 0, 20) })
	add("a start of no length", 2, func(c *impl.Course, track *[]impl.Sight) { c.Start.Starboard = c.Start.Port })
	add("a finish of no length", 2, func(c *impl.Course, track *[]impl.Sight) { c.Finish.Starboard = c.Finish.Port })
	for _, bad := range brokenParts() {
		for part := range 10 {
			add("a part of the course: "+numbers(part, bad), 3, func(c *impl.Course, track *[]impl.Sight) {
				l, f, m := &c.Start, &c.Finish, c.Marks
				*[]*int{&l.Port.X, &l.Port.Y, &l.Starboard.X, &l.Starboard.Y, &f.Port.X, &f.Port.Y, &f.Starboard.X, &f.Starboard.Y, &m[2].At.X, &m[1].At.Y}[part] = bad
			})
		}
		for i := range 10 {
			add("a place of the track: "+numbers(i, bad), 3, func(c *impl.Course, track *[]impl.Sight) { (*track)[i].At.X = bad })
			add("another place of the track: "+numbers(i, bad), 3, func(c *impl.Course, track *[]impl.Sight) { (*track)[i].At.Y = bad })
		}
	}
	for _, bad := range brokenTimes() {
		for i := range 10 {
			add("a time of the track: "+numbers(i, bad), 3, func(c *impl.Course, track *[]impl.Sight) { (*track)[i].Time = bad })
		}
	}
	for i := range 9 {
		add("a time twice: "+numbers(i), 3, func(c *impl.Course, track *[]impl.Sight) { (*track)[i+1].Time = (*track)[i].Time })
	}
	return list
}

// checkNoRound checks that nothing is rounded, nor finished, and that nothing is written into the
// arguments.
func checkNoRound(t *testing.T, name string, c impl.Course, track []impl.Sight) {
	t.Helper()
	for _, k := range []int{0, 1, len(c.Marks) - 1, -1, len(c.Marks), math.MinInt, math.MaxInt} {
		for _, begin := range []int{0, 1, 3, len(track) - 2, -1, len(track), math.MinInt, math.MaxInt} {
			if got := checkRounded(t, c, k, track, begin); got != -1 {
				t.Errorf("%s: the mark %d from %d on: %d", name, k, begin, got)
			}
		}
	}
	for _, begin := range []int{0, 1, 3, len(track) - 2, -1, len(track), math.MinInt, math.MaxInt} {
		if got := checkProgress(t, c, track, begin); len(got) != 0 {
			t.Errorf("%s: from %d on: %v", name, begin, got)
		}
		if got, ok := checkFinish(t, c, track, begin); got != 0 || ok {
			t.Errorf("%s: a finish from %d on: %d %v", name, begin, got, ok)
		}
	}
	for _, gun := range []int{0, 5, -1, impl.MaxTime, impl.MaxTime + 1, math.MinInt, math.MaxInt} {
		if got, ok := checkRace(t, c, track, gun); got != 0 || ok {
			t.Errorf("%s: a gun at %d: %d %v", name, gun, got, ok)
		}
	}
}

func TestRoundingOfWhatIsNotValid(t *testing.T) {
	for name, race := range brokenRaces() {
		checkNoRound(t, name, race.c, race.track)
	}
	good, track := laps(3)
	for name, c := range brokenCourses() {
		checkNoRound(t, name, c, track)
	}
	for _, broken := range brokenTracks() {
		checkNoRound(t, "a track", good, broken)
	}
	checkNoRound(t, "neither", impl.Course{}, make([]impl.Sight, impl.MaxTrack+1))
	if got := impl.Progress(good, track, 0); len(got) != 3 {
		t.Error("the course that the broken ones come from:", got)
	}
}

// Tracks of all lengths, up to the greatest one.
func TestRoundedAtOfLongTracks(t *testing.T) {
	c := offshore(toPort(10, 0))
	for n := range impl.MaxTrack + 3 {
		text := ""
		for len(text) < n-2 {
			text += "A"
		}
		track := lettered((text + "EW")[max(0, 2-n):][:n])
		want := n - 1
		if n < 2 || n > impl.MaxTrack {
			want = -1
		}
		if got := checkRounded(t, c, 0, track, 0); got != want {
			t.Errorf("%d sights: %d, want %d", n, got, want)
		}
	}
}
