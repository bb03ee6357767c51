package tests

import (
	"fmt"
	"slices"
	"strconv"
	"strings"
	"testing"

	"loop.example/g03321/impl"
)

// sailedBy returns the last yacht by the rule for Do, line by line, and which lines were done.
func sailedBy(y impl.Yacht, lines []string) (impl.Yacht, []bool) {
	done := make([]bool, len(lines))
	for i, line := range lines {
		y, done[i] = yachtAfter(y, line)
	}
	return y, done
}

// holdLines holds lines; behind them are ones that would be done.
func holdLines(lines []string) held[string] { return hold(lines, "steer 1", "go 1", "sail none") }

// checkLines checks that nothing is written into lines or the room behind them.
func checkLines(t *testing.T, h held[string]) {
	t.Helper()
	h.check(t, func(a, b string) bool { return a == b })
}

// checkAll returns DoAll, after a look that it follows its rule, that nothing is written into the yacht or
// the lines, and that the results are new.
func checkAll(t *testing.T, y impl.Yacht, lines []string) (impl.Yacht, []bool) {
	t.Helper()
	want, wantDone := sailedBy(y, lines)
	h, given := holdYacht(y), holdLines(lines)
	checkNewYacht(t, func() impl.Yacht {
		got, done := impl.DoAll(h.given, given.given)
		if !slices.Equal(done, wantDone) || !sameYacht(got, want) {
			t.Fatalf("DoAll(%v, %q): %v %v, want %v %v", y, lines, got, done, want, wantDone)
		}
		return got
	})
	_, done := impl.DoAll(h.given, given.given)
	_, again := impl.DoAll(h.given, given.given)
	fill(again, len(done) > 0 && !done[0])
	if !slices.Equal(done, wantDone) {
		t.Fatalf("DoAll(%v, %q): %v becomes %v", y, lines, wantDone, done)
	}
	h.check(t)
	checkLines(t, given)
	return want, wantDone
}

// replayedBy follows the rule for Replay.
func replayedBy(b impl.Boat, pos complex128, time int, log []string) (impl.Yacht, bool) {
	y := impl.Yacht{B: b, Time: time, Pos: pos, Sail: -1}
	if !yachtFine(y) {
		return impl.Yacht{}, false
	}
	last, done := sailedBy(y, log)
	if slices.Contains(done, false) {
		return impl.Yacht{}, false
	}
	return last, true
}

// checkReplay returns Replay, after a look that it follows its rule, that nothing is written into the boat
// or the log, and that the result is new.
func checkReplay(t *testing.T, b impl.Boat, pos complex128, time int, log []string) (impl.Yacht, bool) {
	t.Helper()
	want, fine := replayedBy(b, pos, time, log)
	h, given := holdBoat(b), holdLines(log)
	checkNewYacht(t, func() impl.Yacht {
		got, ok := impl.Replay(h.given.B, pos, time, given.given)
		if ok != fine || !sameYacht(got, want) {
			t.Fatalf("Replay(%v, %v, %d, %q): %v %v, want %v %v", b, pos, time, log, got, ok, want, fine)
		}
		return got
	})
	h.check(t)
	checkLines(t, given)
	return want, fine
}

// cruise has the lines that a new yacht has been given, and the yacht before and after each of them.
type cruise struct {
	boat   impl.Boat
	pos    complex128
	time   int
	lines  []string
	yachts []impl.Yacht
}

// wildBoat returns a valid boat on which many commands can be done.
func wildBoat(d *dice, tides []impl.Tide) impl.Boat {
	b := []impl.Boat{sloop(), raft(), ketch()}[d.upTo(3)]
	if d.upTo(2) == 0 {
		b.T = tides[d.upTo(len(tides))]
	}
	if d.upTo(3) == 0 {
		b.P = wildPolar(d, 1+d.upTo(5), 2+d.upTo(6))
	}
	if d.upTo(2) == 0 {
		b.S = wildSails(d, 1+d.upTo(impl.MaxSails), 12)
	}
	if d.upTo(2) == 0 {
		b.C, _ = wildRace(d, 1+d.upTo(4), 0)
	}
	return b
}

// wildNumber returns a number in thousandths, within this range.
func wildNumber(d *dice, most int) string { return fixedText(d.upTo(2000*most+1) - 1000*most) }

// wildWind tells a wind, mostly one that is not far from the one that blows.
func wildWind(d *dice, y impl.Yacht) string {
	if d.upTo(3) == 0 {
		speed := []int{3, 8, 15, 30, 110}[d.upTo(5)]
		return "wind " + wildNumber(d, speed) + " " + wildNumber(d, speed)
	}
	near := func(part float32) string { return fixedText(int(1000*part) + d.upTo(12001) - 6000) }
	return "wind " + near(real(y.Wind)) + " " + near(imag(y.Wind))
}

// wildName returns the name of a sail, mostly of one that fits.
func wildName(d *dice, y impl.Yacht) string {
	if m, felt := feltBy(y); felt && d.upTo(4) > 0 {
		if at := bestOf(y.B.S, m); at >= 0 {
			return y.B.S[at].Name
		}
	}
	return y.B.S[d.upTo(len(y.B.S))].Name
}

// wildCommand returns a command that a yacht may well do.
func wildCommand(d *dice, y impl.Yacht) string {
	switch d.upTo(11) {
	case 0:
		return "steer" + numbers(d.upTo(360))
	case 1, 2, 3:
		// A little to the one or to the other side.
		return "steer" + numbers((y.Heading+340+d.upTo(41))%360)
	case 4, 5:
		return wildWind(d, y)
	case 6:
		return "fix " + wildNumber(d, 9000) + " " + wildNumber(d, 11000)
	case 7, 8:
		return "sail " + wildName(d, y)
	default:
		return "go" + numbers(1+d.upTo([]int{5, 60, 700, 3700}[d.upTo(4)]))
	}
}

// wildLine returns a line: a command, also with more spaces than it needs, nonsense, or such as is mostly
// refused.
func wildLine(d *dice, y impl.Yacht, bad []string) string {
	line := wildCommand(d, y)
	switch d.upTo(12) {
	case 0:
		return bad[d.upTo(len(bad))]
	case 1:
		return []string{"sail none", "sail nothing", "go 3601", "steer 360", "go 0", "wind 100.001 0.000", "fix 10000.500 0.000", "sail genoa", "sail kite"}[d.upTo(9)]
	case 2, 3:
		return strings.Repeat(" ", d.upTo(3)) + strings.ReplaceAll(line, " ", strings.Repeat(" ", 1+d.upTo(4))) + strings.Repeat(" ", d.upTo(3))
	}
	return line
}

// wildCruise returns a cruise of n lines.
func wildCruise(d *dice, b impl.Boat, n int) cruise {
	bad, places := nonsense(), edgePositions()
	c := cruise{boat: b, pos: complex(d.within(9000), d.within(9000)), time: d.upTo(200000)}
	if d.upTo(5) == 0 {
		c.pos, c.time = places[d.upTo(len(places))], impl.MaxTime-d.upTo(20000)
	}
	y := impl.Yacht{B: b, Time: c.time, Pos: c.pos, Sail: -1}
	c.yachts = append(c.yachts, y)
	for range n {
		c.lines = append(c.lines, wildLine(d, y, bad))
		y, _ = yachtAfter(y, c.lines[len(c.lines)-1])
		c.yachts = append(c.yachts, y)
	}
	return c
}

// checkSailedAgain checks that the log of a yacht, sailed again from where and when she began, gives the
// same yacht, whichever other lines she was given.
func checkSailedAgain(t *testing.T, c cruise) impl.Yacht {
	t.Helper()
	begun := checkBegun(t, c.boat, c.pos, c.time)
	last, done := checkAll(t, begun, c.lines)
	got, ok := impl.Replay(c.boat, c.pos, c.time, last.Log)
	if !ok || !sameYacht(got, last) {
		t.Fatalf("sailed again: %v %v, want %v", got, ok, last)
	}
	checkReplay(t, c.boat, c.pos, c.time, last.Log)
	if _, fine := checkReplay(t, c.boat, c.pos, c.time, c.lines); fine == slices.Contains(done, false) {
		t.Fatalf("the lines, %q, sailed again: %v", c.lines, fine)
	}
	all, again := impl.DoAll(begun, last.Log)
	if slices.Contains(again, false) || !sameYacht(all, last) || len(again) != len(last.Log) {
		t.Fatalf("the log, %q, done: %v %v", last.Log, all, again)
	}
	return last
}

// checkTimes checks that time has grown by the numbers of the moves in the log, and that each of them has a
// sight at its time.
func checkTimes(t *testing.T, y impl.Yacht, time int) {
	t.Helper()
	sights := []int{}
	for _, line := range y.Log {
		if number, ok := strings.CutPrefix(line, "go "); ok {
			seconds, _ := strconv.Atoi(number)
			time += seconds
			sights = append(sights, time)
		}
	}
	if y.Time != time || !slices.EqualFunc(y.Track, sights, func(s impl.Sight, time int) bool { return s.Time == time }) {
		t.Fatalf("time %d and track %v, want %d and %v", y.Time, y.Track, time, sights)
	}
}

// sailChange tells what a line does to the sail that is set.
func sailChange(before, after impl.Yacht) string {
	m, felt := feltBy(after)
	switch {
	case before.Sail == -1 && after.Sail == -1:
		return "none"
	case before.Sail == -1:
		return "set"
	case after.Sail == -1 && !felt:
		return "taken down without a wind"
	case after.Sail == -1:
		return "taken down"
	case after.Sail != before.Sail:
		return "changed"
	case !fitOf(after.B.S[after.Sail], m):
		return "kept in the wider sense"
	}
	return "kept"
}

// checkCruise checks each line of a cruise, and counts what is seen.
func checkCruise(t *testing.T, c cruise, seen map[string]int) {
	t.Helper()
	for i, line := range c.lines {
		before, after := c.yachts[i], c.yachts[i+1]
		got, ok := checkDo(t, before, line)
		if !sameYacht(got, after) || !ok && !sameYacht(got, before) || !impl.YachtOk(got) {
			t.Fatalf("%q leads from %v to %v", line, before, got)
		}
		if m, felt := impl.Felt(got); got.Sail != -1 && (!felt || !impl.FitsWide(got.B.S[got.Sail], m)) {
			t.Fatalf("the sail of %v does not fit", got)
		}
		checkTimes(t, got, c.time)
		name, _, _ := strings.Cut(strings.TrimLeft(line, " "), " ")
		seen[fmt.Sprint(name, " ", ok)]++
		if ok && name != "sail" {
			seen["a sail is "+sailChange(before, after)]++
		}
		if ok && name == "go" && before.Sail >= 0 && paceBy(before) > 0 {
			seen["moves under sail"]++
		}
		if ok && plainOf(line) != line {
			seen["spaces"]++
		}
	}
}

func TestALogSailedAgainGivesTheSameYacht(t *testing.T) {
	d, seen := dice(131), map[string]int{}
	tides := waters(&d)
	for i := range 400 {
		c := wildCruise(&d, wildBoat(&d, tides), []int{0, 1, 2, 5, 20, 80, 120}[i%7])
		checkCruise(t, c, seen)
		last := checkSailedAgain(t, c)
		if !sameYacht(last, c.yachts[len(c.lines)]) {
			t.Fatalf("%q lead to %v", c.lines, last)
		}
		if last.Sail >= 0 {
			seen["sails at the end"]++
		}
		seen["sights at the end"] += len(last.Track)
	}
	for what, least := range map[string]int{"steer true": 2000, "steer false": 100, "wind true": 1000, "wind false": 200, "sail true": 500, "sail false": 500, "fix true": 500, "fix false": 200, "go true": 1000, "go false": 300, "moves under sail": 200, "spaces": 1000, "a sail is kept": 1000, "a sail is kept in the wider sense": 100, "a sail is changed": 100, "a sail is taken down": 100, "a sail is none": 1000, "sails at the end": 50, "sights at the end": 1000} {
		if seen[what] < least {
			t.Errorf("only %d: %s", seen[what], what)
		}
	}
}

// So many lines that the log is full, or the track; a sight is left out then, or whatever comes behind it.
func TestALongLogSailedAgain(t *testing.T) {
	d, seen := dice(132), map[string]int{}
	tides := waters(&d)
	for i := range 8 {
		c := wildCruise(&d, wildBoat(&d, tides), 500)
		if last := checkSailedAgain(t, c); len(last.Log) == 300 {
			seen["full logs"]++
		}
		for k, y := range c.yachts[1:] {
			if before := c.yachts[k]; len(before.Log) == 300 && !sameYacht(y, before) {
				t.Fatalf("a full log goes on: %v", y)
			}
		}
		// Moves alone, one of which now and then is too long to stay in the sea.
		moves := cruise{boat: []impl.Boat{sloop(), ketch(), raft()}[i%3], pos: 3000i, time: 70 * i}
		for k := range 350 {
			moves.lines = append(moves.lines, []string{"wind -4.000 1.000", "sail main", "steer 180", "go 3600", "go 1", "go 2", "go 1"}[min(k, 3+(k+i)%4)])
		}
		moves.lines = append(moves.lines, "steer 0")
		last := checkSailedAgain(t, moves)
		checkTimes(t, last, 70*i)
		if len(last.Track) == 200 {
			seen["full tracks"]++
		}
	}
	if seen["full logs"] < 4 || seen["full tracks"] < 4 {
		t.Error("only few logs or tracks are full:", seen)
	}
}

// A wind that is halved again and again never dies.
func TestALogOfWindsSailedAgain(t *testing.T) {
	lines := append([]string{"wind -0.001 7.000"}, slices.Repeat([]string{" wind  0.000 0.000"}, 298)...)
	y := checkSailedAgain(t, cruise{boat: raft(), lines: append(lines, "steer 270", "go 9")})
	if !sameWind(y.Wind, complex(-1e-45, 1e-45)) || len(y.Log) != 300 || y.Log[299] != "steer 270" || y.Heading != 270 || len(y.Track) != 0 {
		t.Error("a wind that is halved:", y.Wind, len(y.Log), y.Heading)
	}
}

func TestDoAllOfSmallNumbers(t *testing.T) {
	y := checkBegun(t, sloop(), 0.25-0.5i, 7)
	lines := []string{"sail main", "wind 4.000 0.000", "  sail   main ", "GO 100", "go 100", "steer 400", "go 10", "", "sail none", "go 50", "sail spinnaker", "fix -3.000 4.000", "go 1"}
	last, done := checkAll(t, y, lines)
	if want := []bool{false, true, true, false, true, false, true, false, true, true, false, true, true}; !slices.Equal(done, want) {
		t.Error("done:", done)
	}
	want := impl.Yacht{B: sloop(), Time: 168, Pos: -3 + 4i, Wind: 4, Sail: -1}
	want.Track = []impl.Sight{sight(300, -1, 107), sight(330, -1, 117), sight(330, -1, 167), sight(-3, 4, 168)}
	want.Log = []string{"wind 4.000 0.000", "sail main", "go 100", "go 10", "sail none", "go 50", "fix -3.000 4.000", "go 1"}
	if !sameYacht(last, want) {
		t.Errorf("%v, want %v", last, want)
	}
	// By two lists of lines, one behind the other, it is the same.
	for n := range len(lines) + 1 {
		first, some := checkAll(t, y, lines[:n])
		second, others := checkAll(t, first, lines[n:])
		if !sameYacht(second, want) || !slices.Equal(append(slices.Clone(some), others...), done) {
			t.Errorf("cut at %d: %v", n, second)
		}
	}
}

// No lines, lines that are refused all together, and one that is refused in the midst.
func TestDoAllAndReplayOfRefusedLines(t *testing.T) {
	for _, b := range []impl.Boat{sloop(), ketch()} {
		begun := checkBegun(t, b, -0.5i, 90)
		for _, none := range [][]string{nil, {}} {
			if last, done := checkAll(t, begun, none); !sameYacht(last, begun) || len(done) != 0 {
				t.Error("no lines:", last, done)
			}
			if y, ok := checkReplay(t, b, -0.5i, 90, none); !ok || !sameYacht(y, begun) {
				t.Error("no log:", y, ok)
			}
		}
		bad := nonsense()
		if last, done := checkAll(t, begun, bad); !sameYacht(last, begun) || slices.Contains(done, true) || len(done) != len(bad) {
			t.Error("nonsense:", last, done)
		}
		if y, ok := checkReplay(t, b, -0.5i, 90, bad); ok || !sameYacht(y, impl.Yacht{}) {
			t.Error("nonsense:", y, ok)
		}
		good := []string{"steer 45", "go 5", "wind 3.000 -1.000", "fix 1.000 1.000", " go  7 ", "steer 0", "sail none"}
		whole, ok := checkReplay(t, b, -0.5i, 90, good)
		if last, _ := checkAll(t, begun, good); !ok || !sameYacht(last, whole) || len(last.Log) != 7 {
			t.Error("good lines:", last, whole, ok)
		}
		for i, line := range bad {
			at := i % (len(good) + 1)
			lines := slices.Insert(slices.Clone(good), at, line)
			last, done := checkAll(t, begun, lines)
			if !sameYacht(last, whole) || slices.Index(done, false) != at || slices.Contains(done[at+1:], false) {
				t.Errorf("%q: %v %v", lines, last, done)
			}
			if y, ok := checkReplay(t, b, -0.5i, 90, lines); ok || !sameYacht(y, impl.Yacht{}) {
				t.Errorf("%q: %v %v", lines, y, ok)
			}
		}
	}
}

// As many commands as a log may have, one less, and one more.
func TestDoAllAndReplayUpToTheEndOfTheLog(t *testing.T) {
	for _, n := range []int{298, 299, 300, 301, 302, 700} {
		for _, line := range []string{"steer 7", "go 1", "wind 1.000 2.000", "fix 1.000 2.000", "sail none"} {
			lines := slices.Repeat([]string{"steer 5"}, n)
			lines[n-1], lines[n/2] = line, "go 3"
			last, done := checkAll(t, checkBegun(t, sloop(), 0, 0), lines)
			if k := slices.Index(done, false); len(last.Log) != min(n, 300) || n <= 300 && k >= 0 || n > 300 && k != 300 || slices.Contains(done[min(n, 300):], true) {
				t.Errorf("%d lines: %d in the log, and not done is %d", n, len(last.Log), k)
			}
			if y, ok := checkReplay(t, sloop(), 0, 0, lines); ok != (n <= 300) || len(y.Log) != n && ok {
				t.Errorf("%d lines: %v", n, ok)
			}
		}
	}
}

// What is not valid does no line, and is returned as it is, or not at all.
func TestDoAllAndReplayOfWhatIsNotValid(t *testing.T) {
	for name, y := range brokenYachts() {
		for _, lines := range [][]string{nil, ordinary(), {"sail none", "steer 0", "nothing"}} {
			if last, done := checkAll(t, y, lines); !sameYacht(last, y) || slices.Contains(done, true) || len(done) != len(lines) {
				t.Errorf("%s, %q: %v %v", name, lines, last, done)
			}
		}
	}
	none := func(b impl.Boat, pos complex128, time int, log ...string) {
		t.Helper()
		if y, ok := checkReplay(t, b, pos, time, log); ok || !sameYacht(y, impl.Yacht{}) {
			t.Errorf("Replay(%v, %v, %d, %q): %v %v", b, pos, time, log, y, ok)
		}
	}
	for _, b := range brokenBoats() {
		checkAll(t, impl.Yacht{B: b, Sail: -1}, []string{"steer 5", "sail none"})
		none(b, 0, 0)
		none(b, 0, 0, "sail none")
		none(b, 5, 9, "steer 1", "go 1")
	}
	for _, log := range [][]string{nil, {"sail none"}, {"fix 0.000 0.000", "steer 1"}, {"nothing"}} {
		for _, pos := range brokenPositions() {
			none(sloop(), pos, 0, log...)
		}
		for _, time := range brokenTimes() {
			none(sloop(), 0, time, log...)
		}
	}
}

// Logs are sailed again at the edges of place and time, where a move at their end is refused.
func TestReplayAtItsEdges(t *testing.T) {
	for i, pos := range edgePositions() {
		time := []int{0, impl.MaxTime, impl.MaxTime - 5, impl.MaxTime - 3600}[i%4]
		begun, ok := checkReplay(t, ketch(), pos, time, nil)
		if !ok || !sameComplex(begun.Pos, pos) || begun.Time != time {
			t.Errorf("from %v at %d: %v %v", pos, time, begun, ok)
		}
		checkReplay(t, ketch(), pos, time, []string{"steer 33", "go 5"})
		if _, ok := checkReplay(t, sloop(), pos, impl.MaxTime-3600, []string{"go 3600", "steer 33"}); !ok {
			t.Error("up to the end of time:", pos)
		}
		if _, ok := checkReplay(t, sloop(), pos, impl.MaxTime-3600, []string{"go 3600", "steer 33", "go 1"}); ok {
			t.Error("beyond the end of time:", pos)
		}
	}
}
