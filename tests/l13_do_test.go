package tests

import (
	"regexp"
	"slices"
	"strconv"
	"strings"
	"testing"

	"loop.example/g03321/impl"
)

var (
	plainLine = regexp.MustCompile(`\A[ -~]{0,600}\z`)
	oneField  = regexp.MustCompile(`[^ ]+`)
	toSteer   = regexp.MustCompile(`\Asteer ([0-9]|[1-9][0-9]|[12][0-9]{2}|3[0-5][0-9])\z`)
	toGo      = regexp.MustCompile(`\Ago ([1-9][0-9]{0,3})\z`)
	toSet     = regexp.MustCompile(`\Asail ([^ ]+)\z`)
	toPlace   = regexp.MustCompile(`\A(wind|fix) (-?[0-9]+\.[0-9]{3}) (-?[0-9]+\.[0-9]{3})\z`)
)

// plainOf returns the fields of a line with one space between any two.
func plainOf(line string) string { return strings.Join(oneField.FindAllString(line, -1), " ") }

// toldFixed returns the number that is told in thousandths, if it is one.
func toldFixed(text string) (float64, bool) {
	n, err := strconv.Atoi(strings.Replace(text, ".", "", 1))
	if err != nil || fixedText(n) != text || max(n, -n) > 1e9 {
		return 0, false
	}
	return float64(n) / 1000, true
}

// trimmed returns a yacht with the sail that is kept, changed or taken down.
func trimmed(y impl.Yacht) impl.Yacht {
	if y.Sail >= 0 {
		at := y.Sail
		y.Sail = -1
		if m, felt := feltBy(y); felt {
			y.Sail = keepOf(y.B.S, at, m)
		}
	}
	return y
}

// blown returns a yacht in another wind.
func blown(y impl.Yacht, north, east float64) (impl.Yacht, bool) {
	x := complex(float32(north), float32(east))
	if !impl.VelocityOk(x) {
		return y, false
	}
	if y.Wind == 0 {
		y.Wind = x
	} else {
		y.Wind = dampOf(y.Wind, x, 0.5)
	}
	return trimmed(y), impl.VelocityOk(y.Wind)
}

// setTo returns a yacht with a sail that fits.
func setTo(y impl.Yacht, name string) (impl.Yacht, bool) {
	if name == "none" {
		y.Sail = -1
		return y, true
	}
	m, felt := feltBy(y)
	for i, s := range y.B.S {
		if s.Name == name && felt && fitOf(s, m) {
			y.Sail = i
			return y, true
		}
	}
	return y, false
}

// placedAt returns a yacht at a position that has a place.
func placedAt(y impl.Yacht, pos complex128) (impl.Yacht, bool) {
	_, ok := impl.PlaceOf(pos)
	y.Pos = pos
	return y, ok
}

// gone returns a yacht that has gone on.
func gone(y impl.Yacht, seconds int) (impl.Yacht, bool) {
	leg := legBy(y.Heading, 0, seconds)
	if y.Sail >= 0 {
		leg.Speed = paceBy(y)
	}
	pos, sailed := impl.RunTide(y.Pos, y.Time, []impl.Leg{leg}, y.B.T)
	place, placed := impl.PlaceOf(pos)
	y.Time += seconds
	if !sailed || !placed || seconds > 3600 || y.Time > 10000000 || len(y.Track) >= 200 {
		return y, false
	}
	y.Pos, y.Track = pos, append(slices.Clone(y.Track), impl.Sight{At: place, Time: y.Time})
	return y, true
}

// ordered returns a yacht after a command of which all fields have one space between any two.
func ordered(y impl.Yacht, plain string) (impl.Yacht, bool) {
	if found := toSteer.FindStringSubmatch(plain); found != nil {
		y.Heading, _ = strconv.Atoi(found[1])
		return trimmed(y), true
	}
	if found := toSet.FindStringSubmatch(plain); found != nil {
		return setTo(y, found[1])
	}
	if found := toGo.FindStringSubmatch(plain); found != nil {
		seconds, _ := strconv.Atoi(found[1])
		return gone(y, seconds)
	}
	if found := toPlace.FindStringSubmatch(plain); found != nil {
		north, first := toldFixed(found[2])
		east, second := toldFixed(found[3])
		switch {
		case !first || !second:
		case found[1] == "wind":
			return blown(y, north, east)
		default:
			return placedAt(y, complex(north, east))
		}
	}
	return y, false
}

// yachtAfter follows the rule for Do.
func yachtAfter(y impl.Yacht, line string) (impl.Yacht, bool) {
	if !plainLine.MatchString(line) || !yachtFine(y) || len(y.Log) == 300 {
		return y, false
	}
	next, ok := ordered(y, plainOf(line))
	if !ok {
		return y, false
	}
	next.Log = append(slices.Clone(y.Log), plainOf(line))
	return next, true
}

// checkDo returns Do, after a look that it follows its rule, that nothing is written into the yacht, and
// that the result is new.
func checkDo(t *testing.T, y impl.Yacht, line string) (impl.Yacht, bool) {
	t.Helper()
	want, fine := yachtAfter(y, line)
	h := holdYacht(y)
	checkNewYacht(t, func() impl.Yacht {
		got, ok := impl.Do(h.given, line)
		if ok != fine || !sameYacht(got, want) {
			t.Fatalf("Do(%v, %q): %v %v, want %v %v", y, line, got, ok, want, fine)
		}
		return got
	})
	h.check(t)
	return want, fine
}

// checkDone returns the yacht after a command that is done, after a look that it changes her as told, and
// is appended to her log.
func checkDone(t *testing.T, y impl.Yacht, line string, change func(y *impl.Yacht)) impl.Yacht {
	t.Helper()
	want := copyOfYacht(y)
	change(&want)
	want.Log = append(want.Log, plainOf(line))
	got, ok := checkDo(t, y, line)
	if !ok || !sameYacht(got, want) {
		t.Fatalf("Do(%v, %q): %v %v, want %v", y, line, got, ok, want)
	}
	return got
}

// checkRefused checks that lines are refused, and change nothing.
func checkRefused(t *testing.T, y impl.Yacht, lines ...string) {
	t.Helper()
	for _, line := range lines {
		if got, ok := checkDo(t, y, line); ok || !sameYacht(got, y) {
			t.Fatalf("Do(%v, %q): %v %v", y, line, got, ok)
		}
	}
}

// ordinary returns a command of each kind; all of them are done by the yacht that sailing returns.
func ordinary() []string {
	return []string{"steer 75", "wind -5.000 1.000", "sail jib", "sail main", "sail none", "fix 12.500 -7.250", "go 60"}
}

// nonsense returns lines that no yacht executes.
func nonsense() []string {
	list := []string{
		"", " ", "      ", "\t", "nothing", "stop", "none", "main", "90", "-", ".", "?", "go60", "steer90", "sailmain", "steer,90", "go\t60", "go 60\n", "\ngo 60", "go 60\r", "go 60\x00", "go\u00a060", "go 60\x7f", "go 6\u0660", "steer 90;", "steer 90.", "go 60s", "tack 1", "log", "steers 90", "stee 90", "og 60", "wnd 1.000 2.000", "fixx 1.000 2.000",
		// Capital letters.
		"Steer 75", "STEER 75", "steeR 75", "Go 60", "GO 60", "gO 60", "Wind -5.000 1.000", "WIND -5.000 1.000", "Sail main", "SAIL main", "sail Main", "sail MAIN", "sail None", "sail NONE", "Sail none", "Fix 12.500 -7.250", "FIX 12.500 -7.250",
		// A field too few, or one too many.
		"steer", "go", "sail", "wind", "fix", "wind -5.000", "fix 12.500", "steer 75 75", "steer 7 5", "steer 75 0", "go 60 60", "go 6 0", "sail main jib", "sail main main", "sail none none", "sail none main", "sail main none", "wind -5.000 1.000 2.000", "fix 12.500 -7.250 0.000", "wind wind 1.000", "go go", "go go 60", "60 go", "steer steer 75", "75 steer", "main sail", "-5.000 1.000 wind", "go 60 go 60",
		strings.Repeat("go ", 24) + "60", strings.Repeat("go 60 ", 12), strings.Repeat("go 60 ", 13), "steer 75" + strings.Repeat(" 75", 30),
		// A line that is too long.
		"go 60" + strings.Repeat(" ", 596), strings.Repeat(" ", 596) + "go 60", "go" + strings.Repeat(" ", 597) + "60", strings.Repeat(" ", 601), "sail " + letters(596),
		// A word for another command's.
		"steer none", "steer main", "go none", "wind none none", "fix main main", "steer 75.000", "go 60.000", "wind 5 1", "fix 12 7", "sail 0", "sail 1", "sail -1", "sail 12.500",
		// Names of no sail.
		"sail mai", "sail mainn", "sail ain", "sail m", "sail spare", "sail nonee", "sail non", "sail jib.", "sail \"jib\"", "sail " + letters(16), "sail " + letters(17), "sail " + letters(590),
	}
	for _, number := range []string{"", "-1", "-75", "+75", "+1", "-0", "+0", "01", "075", "0075", "00", "000", "7.5", "75.0", "75.", ".75", "7e1", "0x4b", "7,5", "7_5", "7a", "a", "x75", "75x", "--75", "1-", "NaN", "Inf", "1000000001", "4294967371", "18446744073709551691", "-18446744073709551541", strings.Repeat("9", 30), "٧٥", "７５", "7 5 "} {
		list = append(list, "steer "+number, "go "+number)
	}
	for _, number := range []string{"", "5", "-5", "0", "-0", "5.", ".5", ".500", "-.500", "5.0", "5.00", "5.0000", "5.00000", "05.000", "-05.000", "00.000", "-0.000", "+5.000", "+0.000", "--5.000", "-+5.000", "5-.000", "5.-00", "5.000-", "5,000", "5.00a", "a.000", "5..000", "5.0.00", "5.000.000", "5e0", "0x5.000", "1000000.001", "-1000000.001", "1000001.000", "4294972.296", "18446744073709551.616", "-18446744073709546.616", strings.Repeat("9", 30) + ".000", "NaN", "Inf", "٥.000"} {
		for _, name := range []string{"wind ", "fix "} {
			list = append(list, name+number+" 1.000", name+"1.000 "+number, name+number+" "+number)
		}
	}
	return list
}

func TestDoRefusesNonsense(t *testing.T) {
	ships := []impl.Yacht{sailing(), drifting(-5, 60, 0), {B: ketch(), Sail: -1}}
	for _, line := range nonsense() {
		for _, y := range ships {
			checkRefused(t, y, line)
		}
	}
	// Only by what they lack: without it they are done.
	for _, line := range ordinary() {
		if _, ok := checkDo(t, sailing(), line); !ok {
			t.Errorf("%q is refused", line)
		}
	}
}

// What stands in a line counts by its fields alone, of which the log has one space between any two.
func TestDoOfSpaces(t *testing.T) {
	for _, line := range ordinary() {
		plain, _ := checkDo(t, sailing(), line)
		wide := strings.ReplaceAll(line, " ", "    ")
		full := strings.Replace(line, " ", strings.Repeat(" ", 601-len(line)), 1)
		for _, spaced := range []string{" " + line, line + " ", "   " + line + "     ", wide, "  " + wide + " ", full, line + strings.Repeat(" ", 600-len(line)), strings.Repeat(" ", 600-len(line)) + line} {
			got, ok := checkDo(t, sailing(), spaced)
			if !ok || !sameYacht(got, plain) || got.Log[2] != line {
				t.Errorf("%q: %v %v", spaced, got.Log, ok)
			}
			checkRefused(t, sailing(), spaced+strings.Repeat(" ", 601-len(spaced)))
		}
	}
}

func TestDoSteersEachHeading(t *testing.T) {
	for heading := range 1200 {
		for _, y := range []impl.Yacht{{B: ketch(), Sail: -1, Heading: 17}, sailing(), drifting(-5, 60, 0)} {
			line := "steer" + numbers(heading)
			if heading > 359 {
				checkRefused(t, y, line)
			} else if got, ok := checkDo(t, y, line); !ok || got.Heading != heading || !sameWind(got.Wind, y.Wind) || got.Time != y.Time || !sameComplex(got.Pos, y.Pos) || len(got.Track) != len(y.Track) {
				t.Fatalf("%s: %v %v", line, got, ok)
			}
		}
	}
	for _, heading := range []int{360, 720, 1000000000, 999999999, 4294967296 + 75} {
		checkRefused(t, sailing(), "steer"+numbers(heading))
	}
	y := impl.Yacht{B: sloop(), Sail: -1}
	for _, heading := range []int{359, 0, 359, 180, 180} {
		y = checkDone(t, y, "steer"+numbers(heading), func(y *impl.Yacht) { y.Heading = heading })
	}
}

// The raft feels the wind as it is. Her sail is kept, changed or taken down as she turns.
func TestDoSteersAndTrims(t *testing.T) {
	for _, c := range []struct {
		wind                complex64
		heading, sail, next int
		to                  int
	}{
		// Kept, where it fits, and where it fits in the wider sense alone.
		{-5, 60, 0, 90, 0}, {-5, 60, 0, 270, 0}, {-5, 60, 0, 60, 0}, {-5, 60, 0, 125, 0}, {-5, 60, 0, 235, 0}, {-5, 60, 0, 25, 0}, {-5, 60, 0, 28, 0}, {-5, 120, 2, 85, 2}, {-5, 120, 3, 65, 3}, {-12, 60, 1, 23, 1}, {-17, 60, 1, 135, 1}, {-17, 60, 1, 23, 1}, {-5i, 150, 0, 215, 0}, {-5i, 150, 0, 195, 0},
		// Changed for the first one that fits.
		{-5, 60, 0, 126, 2}, {-5, 60, 0, 180, 2}, {-5, 60, 0, 234, 2}, {-5, 120, 2, 84, 0}, {-5, 120, 2, 30, 0}, {-5, 90, 3, 64, 0}, {-5, 90, 3, 156, 2}, {-10, 90, 1, 136, 3}, {-10.5, 60, 0, 126, 1}, {-17, 60, 1, 136, 4}, {-5i, 150, 0, 216, 2},
		// Taken down: no other one fits, in the wider sense or at all.
		{-5, 60, 0, 24, -1}, {-5, 60, 0, 0, -1}, {-5, 60, 0, 336, -1}, {-5, 120, 2, 29, -1}, {-12, 60, 1, 22, -1}, {-12, 60, 1, 136, -1}, {-12, 60, 1, 180, -1}, {-20, 60, 4, 29, -1}, {-31, 60, 4, 29, -1},
	} {
		y := drifting(c.wind, c.heading, c.sail)
		checkDone(t, y, "steer"+numbers(c.next), func(y *impl.Yacht) { y.Heading, y.Sail = c.next, c.to })
		// No sail is set if none was.
		y.Sail = -1
		checkDone(t, y, "steer"+numbers(c.next), func(y *impl.Yacht) { y.Heading = c.next })
	}
}

// What the sloop feels hangs on her speed at the new heading.
func TestDoSteersAndFeelsTheSpeed(t *testing.T) {
	y := sailing()
	y.Sail = 1
	// From 34 degrees across the wind, from 28 at 65 degrees, and from 13 at 20.
	y = checkDone(t, y, "steer 65", func(y *impl.Yacht) { y.Heading = 65 })
	checkDone(t, y, "steer 20", func(y *impl.Yacht) { y.Heading, y.Sail = 20, 0 })
	y = checkDone(t, y, "steer 45", func(y *impl.Yacht) { y.Heading = 45 })
	y = checkDone(t, y, "steer 180", func(y *impl.Yacht) { y.Heading, y.Sail = 180, 0 })
	y.Sail = 2
	y = checkDone(t, y, "steer 170", func(y *impl.Yacht) { y.Heading = 170 })
	checkDone(t, y, "steer 90", func(y *impl.Yacht) { y.Heading, y.Sail = 90, 0 })
	// As fast as the air she feels none, and the sail is taken down.
	y = impl.Yacht{B: sloop(), Wind: 3, Heading: 90, Sail: 0}
	y.B.P = flat([]float32{3}, []int{0, 180}, 3)
	checkDone(t, y, "steer 0", func(y *impl.Yacht) { y.Heading, y.Sail = 0, -1 })
	checkDone(t, y, "steer 1", func(y *impl.Yacht) { y.Heading = 1 })
	// She would feel more than MaxSpeed.
	y = impl.Yacht{B: sloop(), Wind: -95, Heading: 180, Sail: 0}
	y.B.P, y.B.S = flat([]float32{3}, []int{0, 180}, 20), []impl.Sail{cut("storm", 0, 200, 0, 180)}
	checkDone(t, y, "steer 0", func(y *impl.Yacht) { y.Heading, y.Sail = 0, -1 })
	checkDone(t, y, "steer 100", func(y *impl.Yacht) { y.Heading = 100 })
}

func TestDoOfWinds(t *testing.T) {
	z := float32(negativeZero)
	for _, c := range []struct {
		wind complex64
		told string
		want complex64
	}{
		// The first one is as it is told, also in a calm with any signs.
		{0, "-4.000 3.000", -4 + 3i}, {0, "0.100 -0.001", complex(float32(0.1), float32(-0.001))}, {0, "0.000 0.000", 0}, {complex(z, z), "-4.000 0.000", -4}, {complex(0, z), "0.000 -4.000", -4i}, {complex(z, 0), "0.000 0.000", 0}, {0, "100.000 -100.000", 100 - 100i}, {0, "-100.000 99.999", complex(-100, float32(99.999))}, {0, "0.001 0.000", 0.001},
		// A later one moves by half.
		{-4, "-6.000 2.000", -5 + 1i}, {-4, "-4.000 0.000", -4}, {-4, "0.000 0.000", -2}, {3 - 8i, "0.000 0.000", 1.5 - 4i}, {-4, "4.000 0.000", 0}, {2i, "0.000 -2.000", 0}, {complex(-4, z), "-4.000 0.000", -4}, {complex(-4, z), "-8.000 1.000", -6 + 0.5i}, {100 - 100i, "100.000 -100.000", 100 - 100i}, {100, "-100.000 100.000", 50i}, {complex(prior(100), 0), "100.000 0.000", 100}, {complex(next(-100), 5), "-100.000 5.000", -100 + 5i},
		{complex(5e-45, 0), "0.000 0.000", complex(3e-45, 0)}, {complex(1e-45, -1e-45), "0.000 0.000", complex(1e-45, -1e-45)}, {1e-10, "7.000 7.000", 3.5 + 3.5i},
	} {
		y := impl.Yacht{B: sloop(), Wind: c.wind, Heading: 33, Sail: -1}
		checkDone(t, y, "wind "+c.told, func(y *impl.Yacht) { y.Wind = c.want })
	}
	// Beyond MaxSpeed, in the one part or in the other one, whatever wind there is; half of it would be valid.
	for _, wind := range []complex64{0, -4, 100 + 100i, -100 - 100i, complex(z, 0)} {
		y := impl.Yacht{B: sloop(), Wind: wind, Sail: -1}
		for _, bad := range []string{"100.001", "-100.001", "101.000", "-200.000", "1000000.000", "-1000000.000"} {
			checkRefused(t, y, "wind "+bad+" 0.000", "wind 0.000 "+bad, "wind "+bad+" "+bad, "wind -100.000 "+bad)
		}
	}
}

// Between a valid wind and a valid one that is told there is no other one, however it is rounded.
func TestDoOfWindsAtTheEdgeOfAValidVelocity(t *testing.T) {
	winds := edgeWinds()
	for i := range 200 {
		far := prior(100)
		for range i {
			far = prior(far)
		}
		winds = append(winds, complex(far, -far), complex(-far, 3))
	}
	for i, wind := range winds {
		for k, told := range []string{"100.000 100.000", "-100.000 99.999", "-99.999 -100.000", "99.998 -99.997", "0.000 0.000"} {
			y := impl.Yacht{B: sloop(), Wind: wind, Heading: (i + 90*k) % 360, Sail: -1}
			if got, ok := checkDo(t, y, "wind "+told); !ok || !impl.VelocityOk(got.Wind) {
				t.Fatalf("from %v by %s: %v %v", wind, told, got.Wind, ok)
			}
		}
	}
}

// The raft's sail is kept, changed or taken down as the wind changes.
func TestDoOfWindsAndTrims(t *testing.T) {
	for _, c := range []struct {
		wind          complex64
		heading, sail int
		told          string
		want          complex64
		to            int
	}{
		{-5, 60, 0, "-7.000 0.000", -6, 0}, {-10, 60, 0, "-12.000 0.000", -11, 0}, {-5, 90, 3, "1.000 0.000", -2, 3}, {-8, 60, 1, "-6.000 0.000", -7, 1}, {-5, 120, 2, "1.000 0.000", -2, 2}, {-14, 60, 4, "-12.000 0.000", -13, 4},
		{-10, 60, 0, "-12.001 0.000", complex(damped(-10, -12.001), 0), 1}, {-8, 60, 1, "-5.900 0.000", complex(damped(-8, -5.9), 0), 0}, {-16, 60, 1, "-19.000 0.000", -17.5, 4}, {-5, 60, 0, "0.000 10.000", -2.5 + 5i, 0}, {-5, 60, 0, "0.000 12.000", -2.5 + 6i, 2}, {-5, 120, 2, "2.000 0.000", -1.5, 0}, {-5, 150, 2, "2.000 0.000", -1.5, -1}, {-5, 60, 0, "0.000 -15.000", -2.5 - 7.5i, -1},
		{-30, 60, 4, "-35.000 0.000", -32.5, -1}, {-12, 90, 1, "-12.000 100.000", -12 + 50i, -1},
		// The wind dies, and nothing is felt.
		{-5, 60, 0, "5.000 0.000", 0, -1}, {3i, 300, 0, "0.000 -3.000", 0, -1},
	} {
		y := drifting(c.wind, c.heading, c.sail)
		checkDone(t, y, "wind "+c.told, func(y *impl.Yacht) { y.Wind, y.Sail = c.want, c.to })
		y.Sail = -1
		checkDone(t, y, "wind "+c.told, func(y *impl.Yacht) { y.Wind = c.want })
	}
}

// damped is half between two singles.
func damped(a, b float32) float32 { return real(dampOf(complex(a, 0), complex(b, 0), 0.5)) }
