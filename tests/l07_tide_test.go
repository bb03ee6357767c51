package tests

import (
	"math"
	"slices"
	"testing"

	"loop.example/g03321/impl"
)

// streamOf follows the rule for StreamAt of a valid tide and a valid position.
func streamOf(tide impl.Tide, pos complex128, time int) (complex64, bool) {
	if time < 0 || time > impl.MaxTime {
		return 0, false
	}
	return flowOf(tide.Stations[stationOf(tide, pos)].Flow, time-tide.Highs[highOf(tide.Highs, time)]), true
}

// runTideOf follows the rule for RunTide with pieces of `piece` seconds, where position, legs and tide
// are valid.
func runTideOf(pos complex128, time int, legs []impl.Leg, tide impl.Tide, piece int) (complex128, bool) {
	for _, leg := range legs {
		end := time + leg.Seconds
		for time < end {
			stream, told := streamOf(tide, pos, time)
			n := min(end-time, piece)
			next, ok := runOf(pos, []impl.Leg{legBy(leg.Heading, leg.Speed, n)}, stream)
			if !told || !ok {
				return 0, false
			}
			pos, time = next, time+n
		}
	}
	return pos, true
}

// waters returns tides with streams that differ from place to place and from hour to hour.
func waters(d *dice) []impl.Tide {
	list := []impl.Tide{channel(), channel()}
	list[1].Stations[2].At = 1e8 - 3000
	winds := append(eighthWinds(50), wildWinds(20)...)
	for n := range 12 {
		tide := wildTide(d, 1+n%4, 1+n%7)
		for i := range tide.Stations {
			tide.Stations[i] = impl.Station{At: complex(d.within(20000), d.within(20000)), Flow: wildFlow(d, winds)}
		}
		list = append(list, tide)
	}
	last := channel()
	last.Highs = []int{impl.MaxTime - 2*sixHours, impl.MaxTime - sixHours/2}
	return append(list, last)
}

// shipped returns positions about the stations of a tide.
func shipped(d *dice, tide impl.Tide) []complex128 {
	list := []complex128{0, complex(negativeZero, negativeZero), 1e8 - 1e4, 1e8i - 500}
	for _, s := range tide.Stations {
		near := s.At + complex(d.within(9000), d.within(9000))
		if impl.VectorOk(near) {
			list = append(list, near)
		}
		list = append(list, s.At)
	}
	return list
}

// wildRun returns arguments for RunTide that look random, all valid, with no more than some pieces.
func wildRun(d *dice, tides []impl.Tide) (complex128, int, []impl.Leg, impl.Tide) {
	tide := tides[d.upTo(len(tides))]
	places, times := shipped(d, tide), timesOf(tide)
	legs := wildLegs(d, 1+d.upTo(5), 5000)
	if d.upTo(8) == 0 {
		legs = wildLegs(d, impl.MaxLegs, 700)
	}
	return places[d.upTo(len(places))], times[d.upTo(len(times))], legs, tide
}

func TestRunTideFollowsItsRule(t *testing.T) {
	d := dice(37)
	tides := waters(&d)
	var led, failed, uncut, ashore int
	for range 500 {
		pos, time, legs, tide := wildRun(&d, tides)
		givenTide, givenLegs := copyOfTide(tide), slices.Clone(legs)
		want, fine := runTideOf(pos, time, legs, tide, impl.Piece)
		if got, ok := impl.RunTide(pos, time, legs, tide); ok != fine || !sameComplex(got, want) {
			t.Fatalf("RunTide(%v, %d, %v, %v): %v %v, want %v %v", pos, time, legs, tide, got, ok, want, fine)
		}
		if !sameTide(tide, givenTide) || !sameLegs(legs, givenLegs) {
			t.Fatalf("%v and %v have become %v and %v", givenTide, givenLegs, tide, legs)
		}
		if !fine {
			failed++
			continue
		}
		led++
		if other, _ := runTideOf(pos, time, legs, tide, impl.MaxLeg); !sameComplex(other, want) {
			uncut++
		}
		if stationOf(tide, pos) != stationOf(tide, want) {
			ashore++
		}
	}
	if led < 300 || failed < 30 || uncut < 200 || ashore < 50 {
		t.Error("only few runs lead somewhere, or nowhere, or show their pieces, or pass from a station to another one:", led, failed, uncut, ashore)
	}
}

// hourly returns a tide with one station and one high water, at 0, behind which the stream is faster
// by 6 in the hour; so it is 0, 1, 2 and so on at the beginnings of pieces of that hour.
func hourly() impl.Tide {
	var flow [13]complex64
	for h := range flow {
		flow[h] = complex(float32(6*(h-6)), 0)
	}
	return impl.Tide{Stations: []impl.Station{{At: 1e8i, Flow: flow}}, Highs: []int{0}}
}

func TestRunTideByPieces(t *testing.T) {
	for seconds, want := range map[int]complex128{0: 0, 1: 0, 599: 0, 600: 0, 601: 1, 1199: 599, 1200: 600, 1201: 602, 1800: 1800, 1801: 1803, 3600: 9000, 3601: 9006} {
		if got, ok := impl.RunTide(0, 0, []impl.Leg{legBy(0, 0, seconds)}, hourly()); !ok || !sameComplex(got, want) {
			t.Errorf("%d seconds: %v %v, want %v", seconds, got, ok, want)
		}
	}
	cases := []struct {
		pos  complex128
		time int
		legs []impl.Leg
		want complex128
	}{
		// The pieces of a leg begin with it, whatever is left of the leg before it.
		{0, 0, []impl.Leg{legBy(0, 0, 300), legBy(0, 0, 300)}, 150}, {0, 0, []impl.Leg{legBy(0, 0, 900), legBy(0, 0, 900)}, 300 + 1.5*600 + 2.5*300}, {0, 0, []impl.Leg{legBy(0, 0, 600), legBy(0, 0, 0), legBy(0, 0, 600)}, 600}, {0, 0, []impl.Leg{legBy(0, 0, 1), legBy(0, 0, 599), legBy(0, 0, 1)}, 2},
		{5 - 3i, 600, []impl.Leg{legBy(0, 2, 600)}, 1805 - 3i}, {0, 1800, []impl.Leg{legBy(0, 0, 100)}, 300}, {0, 3600, []impl.Leg{legBy(0, 1, 1200)}, 7*600 + 8*600}, {0, 2 * sixHours, []impl.Leg{legBy(0, 0, 700)}, 36 * 700},
		{7i, 5, nil, 7i}, {7i, 5, []impl.Leg{}, 7i}, {1e8, 5, []impl.Leg{legBy(0, impl.MaxBoat, 0)}, 1e8},
		{0, 7200, alikeLegs(legBy(0, 4, 0), impl.MaxLegs), 0}, {0, sixHours, alikeLegs(legBy(0, 0, 2), impl.MaxLegs), 3600}, {0, sixHours, []impl.Leg{legBy(0, 4, impl.MaxLeg)}, 40 * impl.MaxLeg},
	}
	for _, c := range cases {
		if got, ok := impl.RunTide(c.pos, c.time, c.legs, hourly()); !ok || math.Abs(real(got-c.want)) > 0.01 || imag(got) != imag(c.want) {
			t.Errorf("RunTide(%v, %d, %v): %v %v, want %v", c.pos, c.time, c.legs, got, ok, c.want)
		}
	}
}

// Each piece is run with the stream of the station that is nearest where it begins.
func TestRunTideFromStationToStation(t *testing.T) {
	tide := impl.Tide{Stations: []impl.Station{{At: 0, Flow: steadyFlow(1)}, {At: 1000, Flow: steadyFlow(5i)}, {At: 1000 + 6000i, Flow: steadyFlow(-2)}}, Highs: []int{50000}}
	for seconds, want := range map[int]complex128{500: 500, 600: 600, 601: 600 + 5i, 1200: 600 + 3000i, 1300: 600 + 3500i, 1800: 600 + 6000i, 2400: -600 + 6000i, 3000: -1800 + 6000i} {
		if got, ok := impl.RunTide(0, 40000, []impl.Leg{legBy(70, 0, seconds)}, tide); !ok || got != want {
			t.Errorf("%d seconds: %v %v, want %v", seconds, got, ok, want)
		}
	}
	// Half between two stations, the first one counts.
	if got, ok := impl.RunTide(500, 40000, []impl.Leg{legBy(0, 0, 10)}, tide); !ok || got != 510 {
		t.Error("half between two stations:", got, ok)
	}
}

func TestRunTideAtTheEndsOfTime(t *testing.T) {
	const last = impl.MaxTime
	cases := []struct {
		time, seconds int
		ok            bool
	}{
		{0, 1, true}, {-1, 1, false}, {-1, 600, false}, {-600, 700, false}, {-600, impl.MaxLeg, false}, {last, 1, true}, {last, 600, true}, {last, 601, false}, {last, impl.MaxLeg, false}, {last + 1, 1, false}, {last + 1, 600, false},
		{last - 1, 600, true}, {last - 1, 601, false}, {last - 600, 1200, true}, {last - 600, 1201, false}, {last - 599, 600, true}, {last - 599, 601, false}, {last - 601, 1200, true}, {last - 601, 1201, false}, {last - 601, 1800, false},
		{last - 100, 600, true}, {last - 100000, impl.MaxLeg, true}, {last - impl.MaxLeg + 400, impl.MaxLeg, true}, {last - impl.MaxLeg + 401, impl.MaxLeg, false},
	}
	tide := impl.Tide{Stations: stationsAt(0), Highs: []int{5000}}
	for _, c := range cases {
		// Also as the second leg, or the last one of many.
		for _, before := range [][]impl.Leg{nil, {legBy(0, 9, 0)}, alikeLegs(impl.Leg{}, impl.MaxLegs-1)} {
			legs, want := append(before, legBy(0, 3, c.seconds)), complex128(0)
			if c.ok {
				want = complex(3*float64(c.seconds), float64(c.seconds))
			}
			if got, ok := impl.RunTide(0, c.time, legs, tide); ok != c.ok || got != want {
				t.Errorf("%d seconds from %d on: %v %v, want %v %v", c.seconds, c.time, got, ok, want, c.ok)
			}
		}
	}
	// The time goes on from leg to leg.
	for _, c := range []struct {
		first, second int
		ok            bool
	}{{100, 600, true}, {100, 601, false}, {101, 1, false}, {101, 0, true}, {99, 600, true}, {99, 601, false}, {0, 600, true}, {0, 601, false}} {
		if got, ok := impl.RunTide(0, last-100, []impl.Leg{legBy(0, 1, c.first), legBy(0, 1, c.second)}, tide); ok != c.ok {
			t.Errorf("by %d and %d seconds: %v %v", c.first, c.second, got, ok)
		}
	}
}

// checkNoTideRun checks that legs lead nowhere in a tide, and that both are left as they are.
func checkNoTideRun(t *testing.T, pos complex128, time int, legs []impl.Leg, tide impl.Tide) {
	t.Helper()
	givenTide, givenLegs := copyOfTide(tide), slices.Clone(legs)
	if got, ok := impl.RunTide(pos, time, legs, tide); ok || !sameComplex(got, 0) {
		t.Fatalf("RunTide(%v, %d, %v, %v): %v %v", pos, time, legs, tide, got, ok)
	}
	if !sameTide(tide, givenTide) || !sameLegs(legs, givenLegs) {
		t.Fatalf("%v and %v have become %v and %v", givenTide, givenLegs, tide, legs)
	}
}

// With the first, a middle or the last one of its pieces a run leads out of the plane.
func TestRunTideOutOfThePlane(t *testing.T) {
	tide := impl.Tide{Stations: []impl.Station{{At: 5, Flow: steadyFlow(0.5)}}, Highs: []int{9}}
	for _, seconds := range []int{1, 599, 600, 601, 1200, 1201, 2999, 3000} {
		run := []impl.Leg{legBy(0, 1.5, seconds)}
		for _, away := range []int{0, 1, 599, 600, 601, 1199, 1200, 1201, 2998, 2999, 3000} {
			pos := complex(impl.MaxPlane-2*float64(away), -7)
			if seconds > away {
				checkNoTideRun(t, pos, 0, run, tide)
				checkNoTideRun(t, pos, 0, append(run, legBy(180, 40, seconds)), tide)
				checkNoTideRun(t, pos, 0, append(alikeLegs(impl.Leg{}, impl.MaxLegs-1), run...), tide)
			} else if got, ok := impl.RunTide(pos, 0, run, tide); !ok || got != pos+complex(2*float64(seconds), 0) {
				t.Errorf("%d seconds, %d away: %v %v", seconds, away, got, ok)
			}
		}
	}
	checkNoTideRun(t, 1e8, 0, []impl.Leg{legBy(0, 0, 1)}, tide)
	if got, ok := impl.RunTide(1e8, 0, []impl.Leg{legBy(180, 0.5, 700)}, tide); !ok || real(got) != 1e8 || math.Abs(imag(got)) > 1e-9 {
		t.Error("at the edge, against the stream:", got, ok)
	}
}

// A boat that is faster over ground than MaxSpeed makes no step; but a leg of no seconds has none.
func TestRunTideTooFastOverGround(t *testing.T) {
	tide := impl.Tide{Stations: []impl.Station{{Flow: steadyFlow(51)}}, Highs: []int{9}}
	for _, seconds := range []int{1, 600, 601} {
		for _, legs := range legsThat(legBy(0, impl.MaxBoat, seconds)) {
			checkNoTideRun(t, 0, 0, legs, tide)
		}
	}
	for _, legs := range legsThat(legBy(0, impl.MaxBoat, 0)) {
		if got, ok := impl.RunTide(0, 0, legs, tide); !ok || got != complex(float64(510*(len(legs)-1)), 0) {
			t.Errorf("RunTide(0, 0, %v): %v %v", legs, got, ok)
		}
	}
	// The stream becomes too fast while a leg goes on.
	if got, ok := impl.RunTide(0, 0, []impl.Leg{legBy(0, impl.MaxBoat, 11*600)}, hourly()); !ok || got != 55*600+50*11*600 {
		t.Error("as long as she is slow enough:", got, ok)
	}
	checkNoTideRun(t, 0, 0, []impl.Leg{legBy(0, impl.MaxBoat, sixHours)}, impl.Tide{Stations: []impl.Station{{Flow: [13]complex64{7: 10, 8: 51}}}, Highs: []int{0}})
}

func TestRunTideOfWhatIsNotValid(t *testing.T) {
	tide, some := channel(), []impl.Leg{legBy(0, 2, 100), legBy(90, 3, 600), legBy(200, 1, 0)}
	for _, legs := range [][]impl.Leg{nil, {}, {{}}, {legBy(180, 50, 5000)}, some} {
		for _, pos := range brokenVectors() {
			checkNoTideRun(t, pos, 20000, legs, tide)
			checkNoTideRun(t, pos, -1, legs, impl.Tide{})
		}
	}
	for _, leg := range brokenLegs() {
		for _, legs := range legsThat(leg) {
			checkNoTideRun(t, 0, 20000, legs, tide)
			checkNoTideRun(t, 7-2i, -1, legs, impl.Tide{})
		}
	}
	for _, n := range []int{impl.MaxLegs + 1, 2 * impl.MaxLegs, 1000} {
		checkNoTideRun(t, 0, 20000, alikeLegs(legBy(0, 1, 10), n), tide)
		checkNoTideRun(t, 0, 20000, alikeLegs(impl.Leg{}, n), tide)
	}
	for _, broken := range brokenTides() {
		for _, legs := range [][]impl.Leg{{legBy(0, 0, 1)}, {legBy(0, 0, 0), legBy(45, 4, 700)}, some} {
			checkNoTideRun(t, 0, 50000, legs, broken)
			checkNoTideRun(t, -300+1i, 0, legs, broken)
		}
	}
	for _, time := range brokenTimes() {
		checkNoTideRun(t, 0, time, some, tide)
		checkNoTideRun(t, 0, time, []impl.Leg{legBy(0, 0, 0), legBy(0, 0, 1)}, tide)
		checkNoTideRun(t, 0, time, []impl.Leg{legBy(0, 0, impl.MaxLeg)}, tide)
	}
}

// Some legs and then some more, from the time on at which those are over, lead to the same position.
func TestSomeLegsInATideAndThenSomeMore(t *testing.T) {
	d := dice(38)
	tides, led := waters(&d), 0
	for range 300 {
		pos, time, legs, tide := wildRun(&d, tides)
		all, ok := impl.RunTide(pos, time, legs, tide)
		if !ok {
			continue
		}
		led++
		over := 0
		for n := range len(legs) + 1 {
			some, first := impl.RunTide(pos, time, legs[:n], tide)
			more, second := impl.RunTide(some, time+over, legs[n:], tide)
			if !first || !second || !sameComplex(more, all) {
				t.Fatalf("from %v at %d by %d of %v to %v %v, and by the others to %v %v, want %v", pos, time, n, legs, some, first, more, second, all)
			}
			if n < len(legs) {
				over += legs[n].Seconds
			}
		}
	}
	if led < 150 {
		t.Error("only few legs lead somewhere:", led)
	}
}

// Legs of no seconds leave a position as it is, whatever the time and the tide are, since no stream is
// asked for.
func TestLegsOfNoSecondsInATide(t *testing.T) {
	d := dice(39)
	tides := append(goodTides(), impl.Tide{})
	for _, broken := range brokenTides() {
		tides = append(tides, broken)
	}
	times := append(brokenTimes(), 0, 1, 50000, impl.MaxTime)
	for _, pos := range positions() {
		for range 5 {
			legs, time, tide := wildLegs(&d, d.upTo(impl.MaxLegs+1), 0), times[d.upTo(len(times))], tides[d.upTo(len(tides))]
			if got, ok := impl.RunTide(pos, time, legs, tide); !ok || !sameComplex(got, pos) {
				t.Fatalf("RunTide(%v, %d, %v, %v): %v %v", pos, time, legs, tide, got, ok)
			}
		}
	}
}

// Whatever the functions write behind the elements of a list is seen in the room behind them.
func TestNothingIsWrittenIntoLegsOrTides(t *testing.T) {
	room := func() ([]impl.Leg, impl.Tide) {
		legs := []impl.Leg{legBy(10, 3, 1500), legBy(0, 0, 0), legBy(-80, 2, 600), legBy(7, -1, 5), legBy(8, 1, -5)}
		return legs, impl.Tide{Stations: append(channel().Stations, stations(3)...), Highs: append(channel().Highs, -7, -8, -9)}
	}
	legs, tide := room()
	wantLegs, wantTide := room()
	for _, n := range []int{0, 1, 3, 4, 5} {
		for _, highs := range []int{0, 4, 5} {
			for _, pos := range []complex128{0, 3900, 1e8, complex(math.NaN(), 0)} {
				for _, time := range []int{-1, 0, 30000, impl.MaxTime - 1000, impl.MaxTime} {
					impl.RunLegs(pos, legs[:n], 1-1i)
					impl.RunLegs(pos, legs[:n], 200)
					impl.RunTide(pos, time, legs[:n], impl.Tide{Stations: tide.Stations[:3], Highs: tide.Highs[:highs]})
				}
			}
			if !sameLegs(legs, wantLegs) || !sameTide(tide, wantTide) {
				t.Fatalf("%v and %v have become %v and %v", wantLegs, wantTide, legs, tide)
			}
		}
	}
}
