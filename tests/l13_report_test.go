package tests

import (
	"fmt"
	"maps"
	"math"
	"slices"
	"strings"
	"testing"

	"loop.example/g03321/impl"
)

// reportOf follows the rule for Report.
func reportOf(y impl.Yacht) string {
	if !yachtFine(y) {
		return ""
	}
	name := "none"
	if y.Sail >= 0 {
		name = y.B.S[y.Sail].Name
	}
	x, east := nearestWhole(real(y.Pos)), nearestWhole(imag(y.Pos))
	marks := 0
	if len(y.Track) > 0 {
		marks = len(progressOf(y.B.C, y.Track, 0))
	}
	return fmt.Sprint(y.Time, " ", x, " ", east, " ", y.Heading, " ", name, " ", len(y.Track), " ", marks)
}

// checkReport returns Report, after a look that it follows its rule, that it has seven fields or none, and
// that nothing is written into the yacht.
func checkReport(t *testing.T, y impl.Yacht) string {
	t.Helper()
	h, want := holdYacht(y), reportOf(y)
	got, again := impl.Report(h.given), impl.Report(h.given)
	h.check(t)
	if got != want || again != want {
		t.Fatalf("Report(%v): %q %q, want %q", y, got, again, want)
	}
	if fields, ok := impl.SplitFields(got); got != "" && (!ok || len(fields) != 7 || strings.Join(fields, " ") != got) {
		t.Fatalf("Report(%v): %q", y, got)
	}
	return got
}

// resultOf follows the rule for Result.
func resultOf(y impl.Yacht, gun int) (int, bool) {
	if !yachtFine(y) || gun < 0 || gun > 10000000 {
		return 0, false
	}
	return raceOf(y.B.C, y.Track, gun)
}

// checkResult returns Result, likewise.
func checkResult(t *testing.T, y impl.Yacht, gun int) (int, bool) {
	t.Helper()
	h := holdYacht(y)
	want, fine := resultOf(y, gun)
	for range 2 {
		if got, ok := impl.Result(h.given, gun); got != want || ok != fine {
			t.Fatalf("Result(%v, %d): %d %v, want %d %v", y, gun, got, ok, want, fine)
		}
	}
	h.check(t)
	return want, fine
}

// racing returns a yacht that has sailed around n marks, from a start at 5 to a finish five seconds ahead
// of the end of her track.
func racing(n int) impl.Yacht {
	y := sailing()
	y.B.C, y.Track = laps(n)
	y.Time = y.Track[len(y.Track)-1].Time
	return y
}

// Of a yacht without a track, and of one that is on her way, with a sail and without one.
func TestReportOfSmallNumbers(t *testing.T) {
	begun, _ := impl.NewYacht(sloop(), 0, 0)
	late, _ := impl.NewYacht(ketch(), 2.5-2.5i, impl.MaxTime)
	edge, _ := impl.NewYacht(raft(), complex(-10000.25, 9999.5), 3600)
	minus, _ := impl.NewYacht(sloop(), complex(-0.25, negativeZero), 1)
	sailed, bare, jib := sailing(), sailing(), sailing()
	bare.Sail, jib.Sail = -1, 1
	for _, c := range []struct {
		y    impl.Yacht
		want string
	}{
		{begun, "0 0 0 0 none 0 0"}, {late, "10000000 3 -3 0 none 0 0"}, {edge, "3600 -10000 10000 0 none 0 0"}, {minus, "1 0 0 0 none 0 0"}, {sailed, "500 30 -41 90 main 2 0"}, {bare, "500 30 -41 90 none 2 0"}, {jib, "500 30 -41 90 jib 2 0"},
		{drifting(-10, 359, -1), "0 0 0 359 none 0 0"}, {drifting(-10, 60, 0), "0 0 0 60 genoa 0 0"}, {drifting(-5, 270, 2), "0 0 0 270 kite 0 0"}, {drifting(-20, 180, 4), "0 0 0 180 storm 0 0"},
		{racing(1), "50 30 -41 90 main 6 1"}, {racing(2), "70 30 -41 90 main 8 2"}, {racing(20), "430 30 -41 90 main 44 20"},
	} {
		if got := checkReport(t, c.y); got != c.want {
			t.Errorf("%q, want %q", got, c.want)
		}
	}
}

// The marks are counted from the sight 0 on, at each sight, and in either direction.
func TestReportCountsMarks(t *testing.T) {
	for _, n := range []int{1, 2, 5, impl.MaxMarks} {
		y := racing(n)
		track := y.Track
		for k := range len(track) + 1 {
			y.Track = track[:k]
			// The mark m is rounded at the sight 2m + 3.
			want := fmt.Sprint(y.Time, " 30 -41 90 main ", k, " ", impl.Clamp((k-2)/2, 0, n))
			if got := checkReport(t, y); got != want {
				t.Errorf("%d sights: %q, want %q", k, got, want)
			}
		}
		y.Track = track
		y.B.C, y.Track = mirrored(y.B.C, y.Track)
		checkReport(t, y)
		y.B.C, _ = laps(n)
		if got := checkReport(t, y); !strings.HasSuffix(got, " 0") {
			t.Error("the wrong way around:", got)
		}
	}
	d, marks := dice(133), map[int]int{}
	for range 1000 {
		y := sailing()
		y.B.C, y.Track = wildRace(&d, 1+d.upTo(4), d.upTo(100))
		y.Time = impl.MaxTime
		fields := strings.Fields(checkReport(t, y))
		for k := range 5 {
			if fields[6] == fmt.Sprint(k) {
				marks[k]++
			}
		}
	}
	if len(marks) != 5 || slices.Min(slices.Collect(maps.Values(marks))) < 20 {
		t.Error("only few marks are rounded:", marks)
	}
}

func TestReportAndResultOfGoodYachts(t *testing.T) {
	for i, y := range goodYachts() {
		if checkReport(t, y) == "" {
			t.Error("no report:", y)
		}
		for _, gun := range []int{-1, 0, i, y.Time, impl.MaxTime, impl.MaxTime + 1} {
			checkResult(t, y, gun)
		}
	}
}

func TestResultOfSmallNumbers(t *testing.T) {
	for _, n := range []int{1, 2, 3, impl.MaxMarks} {
		y := racing(n)
		for gun, want := range map[int]bool{-1: false, 0: true, 3: true, 5: true, 6: false, y.Time: false, impl.MaxTime: false, impl.MaxTime + 1: false, math.MinInt: false, math.MaxInt: false} {
			got, ok := checkResult(t, y, gun)
			if ok != want || ok && got != y.Time-5-gun || !ok && got != 0 {
				t.Errorf("%d marks, gun at %d: %d %v", n, gun, got, ok)
			}
		}
		// Without the last sight she does not finish; without any there is nothing.
		track := y.Track
		for k := range track {
			y.Track = track[:k]
			if got, ok := checkResult(t, y, 3); ok || got != 0 {
				t.Errorf("%d marks and %d sights: %d %v", n, k, got, ok)
			}
		}
	}
	d, finished := dice(134), 0
	for range 1500 {
		y := sailing()
		y.B.C, y.Track = wildRace(&d, 1+d.upTo(2), 60+d.upTo(140))
		y.Time = impl.MaxTime
		if _, ok := checkResult(t, y, d.upTo(300)); ok {
			finished++
		}
	}
	if finished < 50 {
		t.Error("only few races are finished:", finished)
	}
}

// A race that is sailed by commands.
func TestResultAndReportOfALog(t *testing.T) {
	b := sloop()
	// Around a mark in the north, which is left to port, and back over the line at which she started.
	b.C = impl.Course{Start: lineFrom(0, 0, 0, 20), Marks: []impl.Mark{toPort(100, 0)}, Finish: lineFrom(0, 0, 0, -20)}
	y := checkBegun(t, b, -6+5i, 100)
	lines := []string{"go 1", "wind 4.000 0.000", "sail main", "go 40", "steer 270", "go 3", "steer 180", "wind -4.000 0.000", "wind -4.000 0.000"}
	reports := []string{"101 -6 5 0 none 1 0", "101 -6 5 0 none 1 0", "101 -6 5 0 main 1 0", "141 114 5 0 main 2 0", "141 114 5 270 main 2 0", "144 114 -13 270 main 3 1", "144 114 -13 180 main 3 1", "144 114 -13 180 none 3 1", "144 114 -13 180 none 3 1"}
	for i, line := range lines {
		next, ok := checkDo(t, y, line)
		if got := checkReport(t, next); !ok || got != reports[i] {
			t.Errorf("behind %q: %q %v, want %q", line, got, ok, reports[i])
		}
		if _, ok := checkResult(t, next, 100); ok {
			t.Errorf("behind %q she has finished", line)
		}
		y = next
	}
	y, done := checkAll(t, y, []string{"sail jib", "sail main", "go 37", "go 5"})
	if want := []bool{false, true, true, true}; !slices.Equal(done, want) {
		t.Error("done:", done)
	}
	// She started at 103, two seconds behind -6, and came back to the line a second behind 3, at 182.
	if got := checkReport(t, y); got != "186 -12 -13 180 main 5 1" {
		t.Error("at the end:", got)
	}
	if got, ok := checkResult(t, y, 100); !ok || got != 82 {
		t.Error("result:", got, ok)
	}
}

// No yacht that is not valid has a report or a result, also where her track on her course had one.
func TestReportAndResultOfWhatIsNotValid(t *testing.T) {
	none := func(name string, y impl.Yacht) {
		t.Helper()
		if got := checkReport(t, y); got != "" {
			t.Errorf("%s: %q", name, got)
		}
		for _, gun := range []int{0, 3, -1} {
			if got, ok := checkResult(t, y, gun); ok || got != 0 {
				t.Errorf("%s, gun at %d: %d %v", name, gun, got, ok)
			}
		}
	}
	for name, y := range brokenYachts() {
		none(name, y)
	}
	for name, y := range brokenFrom(racing(2)) {
		none("in a race, "+name, y)
	}
	for name, b := range brokenBoats() {
		y := racing(2)
		c := y.B.C
		y.B = b
		none(name, y)
		y.Sail = -1
		none(name, y)
		if impl.CourseOk(b.C) {
			y.B.C = c
			none("in a race, "+name, y)
		}
	}
}
