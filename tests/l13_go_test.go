package tests

import (
	"slices"
	"testing"

	"loop.example/g03321/impl"
)

// The raft feels the wind as it is. A sail is set where it fits; in the wider sense that is not enough.
func TestDoSetsSails(t *testing.T) {
	for _, c := range []struct {
		wind    complex64
		heading int
		name    string
		to      int
	}{
		{-5, 60, "genoa", 0}, {-10, 60, "genoa", 0}, {-5, 30, "genoa", 0}, {-5, 330, "genoa", 0}, {-5, 120, "genoa", 0}, {-8, 60, "jib", 1}, {-16, 28, "jib", 1}, {-16, 230, "jib", 1}, {-3, 90, "kite", 2}, {-9, 180, "kite", 2}, {-2, 70, "gennaker", 3}, {-11, 150, "gennaker", 3}, {-14, 35, "storm", 4}, {-30, 180, "storm", 4}, {-5i, 150, "genoa", 0}, {complex(-1e-45, 0), 60, "genoa", 0},
	} {
		for sail := -1; sail < 5; sail++ {
			// Whichever one is set before, if it may be: also the same one.
			if y := drifting(c.wind, c.heading, sail); sailFine(y) {
				checkDone(t, y, "sail "+c.name, func(y *impl.Yacht) { y.Sail = c.to })
			}
		}
	}
	for _, c := range []struct {
		wind    complex64
		heading int
		name    string
	}{
		// It fits in the wider sense alone, or not at all.
		{northWind(next(10)), 60, "genoa"}, {-11, 60, "genoa"}, {-12, 60, "genoa"}, {-5, 29, "genoa"}, {-5, 25, "genoa"}, {-5, 0, "genoa"}, {-5, 121, "genoa"}, {-5, 239, "genoa"}, {-5, 180, "genoa"}, {northWind(prior(8)), 60, "jib"}, {-7, 60, "jib"}, {-17, 60, "jib"}, {-10, 27, "jib"}, {-10, 131, "jib"}, {-5, 89, "kite"}, {-5, 85, "kite"}, {northWind(prior(3)), 120, "kite"}, {northWind(next(9)), 120, "kite"}, {-5, 69, "gennaker"}, {-5, 151, "gennaker"}, {-13, 90, "storm"}, {-31, 90, "storm"}, {-20, 34, "storm"}, {-100 + 100i, 120, "storm"},
	} {
		for sail := -1; sail < 5; sail++ {
			if y := drifting(c.wind, c.heading, sail); sailFine(y) {
				checkRefused(t, y, "sail "+c.name)
			}
		}
	}
}

// The sail that is set already stays, if it fits; where it fits in the wider sense alone, that it shall be
// set is refused, and it stays, too.
func TestDoSetsTheSailThatIsSet(t *testing.T) {
	y := drifting(-10, 60, 0)
	y = checkDone(t, y, "sail genoa", func(*impl.Yacht) {})
	y = checkDone(t, y, "wind -11.500 0.000", func(y *impl.Yacht) { y.Wind = -10.75 })
	checkRefused(t, y, "sail genoa", "sail kite", "sail storm")
	y = checkDone(t, y, "sail jib", func(y *impl.Yacht) { y.Sail = 1 })
	checkRefused(t, y, "sail genoa")
	y = checkDone(t, y, "sail none", func(y *impl.Yacht) { y.Sail = -1 })
	checkRefused(t, y, "sail genoa")
	checkDone(t, y, "sail none", func(*impl.Yacht) {})
	checkDone(t, y, "sail jib", func(y *impl.Yacht) { y.Sail = 1 })
}

// While no wind is felt no sail is set; there is none to be taken down, but that is done.
func TestDoSetsNoSailWithoutAWind(t *testing.T) {
	ships := []impl.Yacht{}
	for _, calm := range calms() {
		ships = append(ships, drifting(calm, 90, -1), impl.Yacht{B: sloop(), Wind: calm, Sail: -1})
	}
	for _, y := range mistrimmed() {
		if _, felt := feltBy(y); !felt {
			y.Sail = -1
			ships = append(ships, y)
		}
	}
	for _, y := range ships {
		for _, s := range y.B.S {
			checkRefused(t, y, "sail "+s.Name)
		}
		checkDone(t, y, "sail none", func(*impl.Yacht) {})
	}
	if len(ships) != 13 {
		t.Error("yachts:", len(ships))
	}
}

// Of many sails each one is set by its name, at whichever place it is.
func TestDoSetsEachSail(t *testing.T) {
	for n := 1; n <= impl.MaxSails; n++ {
		y := drifting(-10, 90, -1)
		y.B.S = locker(n)
		for k := range n {
			y = checkDone(t, y, "sail "+y.B.S[k].Name, func(y *impl.Yacht) { y.Sail = k })
		}
		// It is as it is for others that fit as well, or do not.
		y.B.S[0].From = 91
		checkRefused(t, y, "sail "+y.B.S[0].Name, "sail "+locker(13)[n].Name, "sail sail")
	}
}

func TestDoOfFixes(t *testing.T) {
	for told, want := range map[string]complex128{
		"0.000 0.000": 0, "12.500 -7.250": 12.5 - 7.25i, "0.001 -0.001": complex(0.001, -0.001), "10000.000 -10000.000": 10000 - 10000i, "10000.499 10000.499": complex(10000.499, 10000.499), "-10000.499 -10000.499": complex(-10000.499, -10000.499), "10000.499 -10000.499": complex(10000.499, -10000.499), "-9999.999 0.333": complex(-9999.999, 0.333), "0.000 10000.499": complex(0, 10000.499), "16.777 1677.721": complex(16.777, 1677.721),
	} {
		for _, y := range []impl.Yacht{sailing(), drifting(-5, 60, 0), {B: ketch(), Sail: -1, Pos: complex(negativeZero, 10000.25)}} {
			checkDone(t, y, "fix "+told, func(y *impl.Yacht) { y.Pos = want })
		}
	}
	for _, bad := range []string{"10000.500", "-10000.500", "10000.501", "10001.000", "-10001.000", "99999.999", "1000000.000", "-1000000.000"} {
		for _, good := range []string{"0.000", "10000.499", "-10000.000"} {
			checkRefused(t, sailing(), "fix "+bad+" "+good, "fix "+good+" "+bad, "fix "+bad+" "+bad)
		}
	}
}

// southerly returns the sloop ahead of a south wind, in which she makes 3 to the north with a sail, and
// nothing without one.
func southerly(pos complex128, sail int) impl.Yacht {
	return impl.Yacht{B: sloop(), Time: 1000, Pos: pos, Wind: 4, Sail: sail}
}

// moved returns what a move changes.
func moved(pos complex128, place impl.Place, seconds int) func(y *impl.Yacht) {
	return func(y *impl.Yacht) {
		y.Pos = pos
		y.Time += seconds
		y.Track = append(y.Track, impl.Sight{At: place, Time: y.Time})
	}
}

func TestDoGoes(t *testing.T) {
	for _, n := range []int{1, 2, 59, 599, 600, 601, 1200, 1999, 3599, 3600} {
		line, far := "go"+numbers(n), float64(3*n)
		checkDone(t, southerly(-9000.25+2.5i, 0), line, moved(complex(far-9000.25, 2.5), at(3*n-9000, 3), n))
		checkDone(t, southerly(-9000.25+2.5i, -1), line, moved(-9000.25+2.5i, at(-9000, 3), n))
		// Without a wind.
		checkDone(t, impl.Yacht{B: ketch(), Sail: -1}, line, func(y *impl.Yacht) { *y, _ = gone(*y, n) })
		checkDone(t, impl.Yacht{B: sloop(), Sail: -1, Pos: 7 - 7.5i, Heading: 200}, line, moved(7-7.5i, at(7, -8), n))
	}
	for _, y := range []impl.Yacht{southerly(-9000, 0), southerly(-9000, -1), sailing(), {B: ketch(), Sail: -1}} {
		checkRefused(t, y, "go 0", "go 3601", "go 3602", "go 7200", "go 100000", "go 999999999", "go 1000000000", "go 4294967356")
	}
	// One move behind the other.
	y := southerly(0, 0)
	y = checkDone(t, y, "go 10", moved(30, at(30, 0), 10))
	y = checkDone(t, y, "go 1", moved(33, at(33, 0), 1))
	y = checkDone(t, y, "sail none", func(y *impl.Yacht) { y.Sail = -1 })
	y = checkDone(t, y, "go 100", moved(33, at(33, 0), 100))
	y = checkDone(t, y, "fix -2.500 4.500", func(y *impl.Yacht) { y.Pos = -2.5 + 4.5i })
	y = checkDone(t, y, "go 5", moved(-2.5+4.5i, at(-3, 5), 5))
	y = checkDone(t, y, "sail kite", func(y *impl.Yacht) { y.Sail = 2 })
	y = checkDone(t, y, "go 5", moved(12.5+4.5i, at(13, 5), 5))
	if want := []impl.Sight{sight(30, 0, 1010), sight(33, 0, 1011), sight(33, 0, 1111), sight(-3, 5, 1116), sight(13, 5, 1121)}; !slices.Equal(y.Track, want) || y.Time != 1121 {
		t.Error("track:", y.Track, y.Time)
	}
}

// A stream carries her whether a sail is set or not, each piece of a move by its own.
func TestDoGoesWithTheStream(t *testing.T) {
	y := southerly(-9000, -1)
	y.B.T, y.Time = hourly(), 0
	checkDone(t, y, "go 600", moved(-9000, at(-9000, 0), 600))
	checkDone(t, y, "go 1201", moved(-8398, at(-8398, 0), 1201))
	checkDone(t, y, "go 3600", moved(0, at(0, 0), 3600))
	y.Sail = 0
	checkDone(t, y, "go 1201", moved(-8398+3603, at(-8398+3603, 0), 1201))
	y = checkDone(t, y, "go 600", moved(-7200, at(-7200, 0), 600))
	y = checkDone(t, y, "go 600", moved(-4800, at(-4800, 0), 600))
	y = checkDone(t, y, "go 1", moved(-4795, at(-4795, 0), 1))
	// There is a station that she comes nearer to.
	y.B.T = impl.Tide{Stations: []impl.Station{{At: -4795, Flow: steadyFlow(1i)}, {At: -2000, Flow: steadyFlow(-2i)}}, Highs: []int{9}}
	y = checkDone(t, y, "go 900", moved(-2095, at(-2095, 0), 900))
	checkDone(t, y, "go 600", moved(-295-1200i, at(-295, -1200), 600))
}

// In more wind than the polar knows she has no speed, with a sail or without one.
func TestDoGoesInTooMuchWind(t *testing.T) {
	b := sloop()
	b.S = []impl.Sail{cut("storm", 0, 200, 0, 180)}
	for _, wind := range []complex64{100 + 100i, -100 + 1i, 72 - 72i} {
		for sail := -1; sail < 1; sail++ {
			y := impl.Yacht{B: b, Heading: 100, Wind: wind, Sail: sail, Pos: 50}
			checkDone(t, y, "go 77", moved(50, at(50, 0), 77))
			y.B.T = impl.Tide{Stations: []impl.Station{{Flow: steadyFlow(0.5 - 2i)}}, Highs: []int{9}}
			checkDone(t, y, "go 10", moved(55-20i, at(55, -20), 10))
			checkDone(t, y, "sail storm", func(y *impl.Yacht) { y.Sail = 0 })
		}
	}
}

func TestDoGoesUpToTheEndOfTime(t *testing.T) {
	for _, n := range []int{1, 2, 600, 601, 3599, 3600} {
		for sail := -1; sail < 1; sail++ {
			y := southerly(-5000, sail)
			y.Time = impl.MaxTime - n
			far := float64(3 * n * (sail + 1))
			last := checkDone(t, y, "go"+numbers(n), moved(complex(far-5000, 0), at(3*n*(sail+1)-5000, 0), n))
			checkRefused(t, last, "go 1", "go 3600")
			checkDone(t, last, "steer 9", func(y *impl.Yacht) { y.Heading = 9 })
			checkRefused(t, y, "go"+numbers(n+1))
			y.Time++
			checkRefused(t, y, "go"+numbers(n))
			if n > 1 {
				checkDone(t, y, "go"+numbers(n-1), moved(complex(far-5000-float64(3*(sail+1)), 0), at(3*(n-1)*(sail+1)-5000, 0), n-1))
			}
		}
	}
}

// However many sights there are, one more is told of each move, up to MaxTrack.
func TestDoGoesUpToTheEndOfTheTrack(t *testing.T) {
	for n := range impl.MaxTrack + 1 {
		for sail := -1; sail < 1; sail++ {
			y := southerly(30, sail)
			y.Track, y.Time = pacing(n), 5000
			if n == 200 {
				checkRefused(t, y, "go 1", "go 3600", "go 0")
				checkDone(t, y, "fix 1.000 1.000", func(y *impl.Yacht) { y.Pos = 1 + 1i })
				checkDone(t, y, "steer 1", func(y *impl.Yacht) { y.Heading = 1 })
				continue
			}
			last := checkDone(t, y, "go 8", moved(complex(float64(30+24*(sail+1)), 0), at(30+24*(sail+1), 0), 8))
			if n == 199 {
				checkRefused(t, last, "go 1")
			}
		}
	}
	y := southerly(0, 0)
	for n := range 200 {
		y = checkDone(t, y, "go 1", moved(complex(float64(3*n+3), 0), at(3*n+3, 0), 1))
	}
	checkRefused(t, y, "go 1")
	if y.Time != 1200 || len(y.Track) != 200 {
		t.Error("time and sights:", y.Time, len(y.Track))
	}
}

// A move that leads beyond what PlaceOf tells is refused; on its way it may.
func TestDoGoesUpToTheEdgeOfTheSea(t *testing.T) {
	checkDone(t, southerly(9997.25, 0), "go 1", moved(10000.25, at(10000, 0), 1))
	checkRefused(t, southerly(9997.25, 0), "go 2", "go 3600")
	checkRefused(t, southerly(9997.5, 0), "go 1")
	checkRefused(t, southerly(10000, 0), "go 1")
	checkDone(t, southerly(9997.5, -1), "go 3600", moved(9997.5, at(9998, 0), 3600))
	checkDone(t, southerly(10000.25-10000.25i, -1), "go 5", moved(10000.25-10000.25i, at(10000, -10000), 5))
	for i, out := range []complex128{1, -1, 1i, -1i} {
		y := impl.Yacht{B: sloop(), Heading: 45 * i, Sail: -1}
		y.B.T = impl.Tide{Stations: []impl.Station{{Flow: steadyFlow(complex64(out / 4))}}, Highs: []int{9}}
		y.Pos = 9999.5 * out
		end := at(10000*int(real(out)), 10000*int(imag(out)))
		checkDone(t, y, "go 1", moved(9999.75*out, end, 1))
		checkDone(t, y, "go 3", moved(10000.25*out, end, 3))
		checkRefused(t, y, "go 4", "go 5", "go 3600")
		y.Pos = 10000.25 * out
		checkRefused(t, y, "go 1")
		y.Pos = 10000.5 * out
		checkRefused(t, y, "go 1", "fix 0.000 0.000")
		// Out with the stream of one station, and back with that of the other one.
		y.Pos = 10000 * out
		y.B.T.Stations = []impl.Station{{At: 10000 * out, Flow: steadyFlow(complex64(out))}, {At: 10600 * out, Flow: steadyFlow(complex64(-out))}}
		checkRefused(t, y, "go 1", "go 600", "go 1199")
		checkDone(t, y, "go 1200", moved(10000*out, end, 1200))
	}
}

// If RunTide is false, since she is too fast over ground, a move is refused; without a sail she is not.
func TestDoGoesTooFastOverGround(t *testing.T) {
	y := impl.Yacht{B: sloop(), Pos: -9000, Wind: 10}
	y.B.P, y.B.S = flat([]float32{5}, []int{0, 180}, 50), []impl.Sail{cut("all", 0, 200, 0, 180)}
	for _, stream := range []float32{50, 50.125, 60, 100} {
		y.B.T = impl.Tide{Stations: []impl.Station{{Flow: steadyFlow(complex(stream, 0))}}, Highs: []int{9}}
		y.Sail = 0
		if stream == 50 {
			checkDone(t, y, "go 10", moved(-8000, at(-8000, 0), 10))
		} else {
			checkRefused(t, y, "go 1", "go 10", "go 100")
		}
		y.Sail = -1
		checkDone(t, y, "go 8", moved(complex(float64(8*stream)-9000, 0), at(int(8*stream)-9000, 0), 8))
	}
	// Only the second piece of a move is too fast.
	y.B.P = flat([]float32{5}, []int{0, 180}, 1)
	y.B.T = impl.Tide{Stations: []impl.Station{{At: -9000}, {At: -8000, Flow: steadyFlow(100)}}, Highs: []int{9}}
	checkDone(t, y, "go 601", moved(-9000, at(-9000, 0), 601))
	y.Sail = 0
	checkDone(t, y, "go 600", moved(-8400, at(-8400, 0), 600))
	checkRefused(t, y, "go 601", "go 700")
}

// A log of MaxLog commands takes no other one, of whichever kind.
func TestDoUpToTheEndOfTheLog(t *testing.T) {
	for _, n := range []int{0, 1, 150, impl.MaxLog - 2, impl.MaxLog - 1, impl.MaxLog, impl.MaxLog + 1} {
		for _, line := range append(ordinary(), nonsense()[:30]...) {
			y := sailing()
			y.Log = logOf(n)
			got, ok := checkDo(t, y, line)
			if want := n < 300 && slices.Contains(ordinary(), line); ok != want {
				t.Errorf("%d commands and %q: %v", n, line, ok)
			}
			if ok && n == 299 {
				checkRefused(t, got, ordinary()...)
			}
		}
	}
}

func TestDoOfYachtsThatAreNotValid(t *testing.T) {
	lines := append(ordinary(), "", "nothing", "steer 360")
	for _, y := range brokenYachts() {
		checkRefused(t, y, lines...)
	}
	for _, b := range brokenBoats() {
		y := sailing()
		y.B = b
		checkRefused(t, y, "steer 75", "go 60")
		y.Sail = -1
		checkRefused(t, y, lines...)
	}
}

// Commands of all kinds, done by yachts of all kinds.
func TestDoOfGoodYachts(t *testing.T) {
	done := map[bool]int{}
	for _, y := range goodYachts() {
		lines := append(ordinary(), "", "nothing", "go 3600", "steer 0", "wind 100.000 -100.000", "wind 0.000 0.000", "sail "+y.B.S[0].Name, "sail "+y.B.S[len(y.B.S)-1].Name)
		for _, line := range lines {
			_, ok := checkDo(t, y, line)
			done[ok]++
		}
	}
	if done[true] < 500 || done[false] < 500 {
		t.Error("only few commands are done, or refused:", done)
	}
}
