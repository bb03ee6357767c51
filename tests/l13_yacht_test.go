package tests

import (
	"math"
	"slices"
	"strings"
	"testing"

	"loop.example/g03321/impl"
)

// paceBy follows the rule for Pace.
func paceBy(y impl.Yacht) float32 {
	if from := impl.FromOf(y.Wind); from >= 0 {
		if speed, ok := impl.SpeedAt(y.B.P, impl.WindSpeed(y.Wind), angleTo(y.Heading, from)); ok {
			return speed
		}
	}
	return 0
}

// feltBy follows the rule for Felt.
func feltBy(y impl.Yacht) (impl.Moment, bool) {
	m, ok := impl.MomentOf(y.Wind, velocityOf(y.Heading, paceBy(y)), y.Heading)
	if !ok {
		return impl.Moment{}, false
	}
	return m, true
}

// sailFine reports whether the sail that is set, if one is, fits in the wider sense.
func sailFine(y impl.Yacht) bool {
	if y.Sail == -1 {
		return true
	}
	m, felt := feltBy(y)
	return felt && 0 <= y.Sail && y.Sail < len(y.B.S) && wideOf(y.B.S[y.Sail], m)
}

// yachtFine follows the rule for YachtOk.
func yachtFine(y impl.Yacht) bool {
	_, placed := impl.PlaceOf(y.Pos)
	late := slices.ContainsFunc(y.Track, func(s impl.Sight) bool { return s.Time > y.Time })
	inRanges := inRange(y.Time, 0, 10000000, 0) && inRange(y.Heading, 0, 359, 0) && len(y.Log) <= 300
	return placed && !late && inRanges && impl.VelocityOk(y.Wind) && impl.TrackOk(y.Track) && boatFine(y.B) && sailFine(y)
}

// checkYacht returns YachtOk, after a look that it follows its rule, and that nothing is written into the
// yacht.
func checkYacht(t *testing.T, y impl.Yacht) bool {
	t.Helper()
	h := holdYacht(y)
	got, again := impl.YachtOk(h.given), impl.YachtOk(h.given)
	h.check(t)
	if want := yachtFine(y); got != want || again != want {
		t.Fatalf("YachtOk(%v): %v %v, want %v", y, got, again, want)
	}
	return got
}

// sailing returns a valid yacht that is on her way with a sail set.
func sailing() impl.Yacht {
	return impl.Yacht{B: sloop(), Time: 500, Pos: 30 - 40.5i, Heading: 90, Wind: -4, Sail: 0, Track: []impl.Sight{sight(5, 5, 20), sight(30, -41, 500)}, Log: []string{"steer 90", "go 480"}}
}

// drifting returns the raft in a wind, with a sail set; she has no speed, so that this is felt.
func drifting(wind complex64, heading, sail int) impl.Yacht {
	return impl.Yacht{B: raft(), Heading: heading, Wind: wind, Sail: sail}
}

// logOf returns a log of n commands.
func logOf(n int) []string { return slices.Repeat([]string{"go 1"}, n) }

// goodYachts returns valid yachts of all kinds.
func goodYachts() []impl.Yacht {
	list := []impl.Yacht{sailing(), drifting(-5, 60, 0), {B: ketch(), Sail: -1}, {B: sloop(), Time: impl.MaxTime, Pos: 10000 - 10000i, Heading: 359, Wind: 100 - 100i, Sail: -1, Track: []impl.Sight{sight(0, 0, impl.MaxTime)}, Log: logOf(impl.MaxLog)}}
	tracks, places, boats := goodTracks(), edgePositions(), goodBoats()
	winds := append(edgeWinds(), wildWinds(100)...)
	for i := range 3 * len(boats) {
		track := tracks[i%len(tracks)]
		y := impl.Yacht{B: boats[i%len(boats)], Pos: places[(5*i)%len(places)], Heading: (i * 71) % 360, Wind: winds[(i*13)%len(winds)], Sail: -1, Track: track, Log: logOf((i * 23) % 301)}
		if len(track) > 0 {
			y.Time = min(impl.MaxTime, track[len(track)-1].Time+i%3)
		}
		if m, felt := feltBy(y); felt {
			y.Sail = bestOf(y.B.S, m)
		}
		list = append(list, y)
	}
	return list
}

// brokenFrom returns yachts that differ from a valid one of three sails by one field other than B, and are
// not valid, by what they lack.
func brokenFrom(good impl.Yacht) map[string]impl.Yacht {
	list := map[string]impl.Yacht{}
	put := func(name string, change func(y *impl.Yacht)) {
		y := good
		change(&y)
		list[name] = y
	}
	for _, time := range brokenTimes() {
		put("time"+numbers(time), func(y *impl.Yacht) { y.Time = time })
	}
	for i, pos := range brokenPositions() {
		put("position"+numbers(i), func(y *impl.Yacht) { y.Pos = pos })
	}
	for _, heading := range []int{-1, -90, -360, 360, 361, 450, 1 << 32, 90 - 1<<32, math.MinInt, math.MaxInt} {
		put("heading"+numbers(heading), func(y *impl.Yacht) { y.Heading = heading })
	}
	for i, wind := range brokenWinds() {
		put("wind"+numbers(i), func(y *impl.Yacht) { y.Wind = wind })
	}
	for _, sail := range []int{-2, -3, 3, 4, 100, 1 << 32, -1 << 32, math.MinInt, math.MaxInt} {
		put("sail"+numbers(sail), func(y *impl.Yacht) { y.Sail = sail })
	}
	for i, track := range brokenTracks() {
		put("track"+numbers(i), func(y *impl.Yacht) { y.Track, y.Time = track, impl.MaxTime })
	}
	for _, late := range []int{1, 2, 1000} {
		put("track that goes on for"+numbers(late), func(y *impl.Yacht) { y.Track = []impl.Sight{sight(0, 0, 0), sight(5, 5, y.Time+late)} })
		put("sight that is late by"+numbers(late), func(y *impl.Yacht) { y.Track = []impl.Sight{sight(5, 5, y.Time+late)} })
	}
	for _, n := range []int{impl.MaxLog + 1, impl.MaxLog + 2, 1000} {
		put("commands"+numbers(n), func(y *impl.Yacht) { y.Log = logOf(n) })
	}
	return list
}

// brokenYachts returns yachts that are not valid, by what they lack; almost all of their boats are valid.
func brokenYachts() map[string]impl.Yacht {
	list := mistrimmed()
	list["nothing"], list["nothing, and no sail"] = impl.Yacht{}, impl.Yacht{Sail: -1}
	for name, y := range brokenFrom(sailing()) {
		list["on her way, "+name] = y
	}
	for name, y := range brokenFrom(impl.Yacht{B: sloop(), Sail: -1}) {
		list["at rest, "+name] = y
	}
	return list
}

// mistrimmed returns yachts that are not valid by the sail that is set, which does not fit in the wider
// sense, or while no wind is felt.
func mistrimmed() map[string]impl.Yacht {
	list := map[string]impl.Yacht{
		"a genoa in too much wind": drifting(northWind(next(11)), 60, 0), "a genoa too near to the wind": drifting(-5, 24, 0), "a genoa too far from it": drifting(-5, 126, 0), "a jib in too little wind": drifting(northWind(prior(7)), 300, 1), "a kite ahead": drifting(-5, 84, 2), "a storm sail in no storm": drifting(northWind(prior(13)), 90, 4),
		"a sail without a wind": drifting(0, 60, 0), "a sail without a wind, but for its sign": drifting(complex(float32(negativeZero), 0), 60, 0), "another sail without a wind": drifting(0, 90, 2),
	}
	// What is felt is no wind: she is as fast as the air, or it is felt as more than MaxSpeed.
	still := sailing()
	still.B.P, still.Wind, still.Heading = flat([]float32{3}, []int{0, 180}, 3), 3, 0
	list["as fast as the air"] = still
	storm := sailing()
	storm.B.P, storm.Wind, storm.Heading = flat([]float32{5}, []int{0, 180}, 10), northWind(95), 0
	storm.B.S = []impl.Sail{cut("all", 0, 200, 0, 180)}
	list["more than MaxSpeed is felt"] = storm
	return list
}

func TestYachtOkAtItsEdges(t *testing.T) {
	sails := map[int]int{}
	for _, y := range goodYachts() {
		if !checkYacht(t, y) {
			t.Error("not valid:", y)
		}
		sails[min(y.Sail, 1)]++
	}
	if sails[-1] < 20 || sails[0] < 20 || sails[1] < 1 {
		t.Error("only few yachts have sails, or none:", sails)
	}
	for name, y := range brokenYachts() {
		if checkYacht(t, y) {
			t.Error("valid:", name)
		}
	}
	for name, b := range brokenBoats() {
		if checkYacht(t, impl.Yacht{B: b, Sail: -1}) {
			t.Error("a boat is valid:", name)
		}
	}
	for name, y := range mistrimmed() {
		y.Sail = -1
		if !checkYacht(t, y) {
			t.Error("not valid without the sail:", name)
		}
	}
}

// One field of a valid yacht is changed at a time; the track ends at Time, or ahead of it, and what is in
// the log does not matter.
func TestYachtOkOfEachField(t *testing.T) {
	check := func(name string, want bool, change func(y *impl.Yacht)) {
		t.Helper()
		y := sailing()
		change(&y)
		if checkYacht(t, y) != want {
			t.Errorf("%s: %v", name, !want)
		}
	}
	for time, want := range map[int]bool{0: false, 499: false, 500: true, 501: true, impl.MaxTime: true, impl.MaxTime + 1: false} {
		check("time"+numbers(time), want, func(y *impl.Yacht) { y.Time = time })
		check("time without a track"+numbers(time), time <= impl.MaxTime, func(y *impl.Yacht) { y.Time, y.Track = time, nil })
	}
	for _, pos := range edgePositions() {
		check("a position", true, func(y *impl.Yacht) { y.Pos = pos })
	}
	for heading := -5; heading < 370; heading++ {
		check("heading"+numbers(heading), heading >= 0 && heading < 360, func(y *impl.Yacht) { y.Heading = heading })
	}
	for n := range impl.MaxTrack + 3 {
		check("sights"+numbers(n), n <= 200, func(y *impl.Yacht) { y.Track, y.Time = pacing(n), impl.MaxTime })
	}
	for n := range impl.MaxLog + 3 {
		check("commands"+numbers(n), n <= 300, func(y *impl.Yacht) { y.Log = logOf(n) })
	}
	for _, log := range [][]string{nil, {}, {""}, {"nothing"}, {"steer 360", "go 0"}, {"\x00\xff"}, {strings.Repeat(" ", 10000)}} {
		check("a log", true, func(y *impl.Yacht) { y.Log = log })
	}
	for sail := -5; sail < 6; sail++ {
		// Across the wind she feels it from ahead, so that the kite does not fit.
		check("sail"+numbers(sail), sail >= -1 && sail <= 1, func(y *impl.Yacht) { y.Sail = sail })
	}
}

// The raft feels the wind as it is: each of her sails, at the ends of what it fits in the wider sense.
func TestYachtOkOfSailsThatFitInTheWiderSense(t *testing.T) {
	for i, s := range cruising() {
		ends := map[float32]bool{s.Least - 1: true, s.Most + 1: true, s.Least: true, s.Most: true, prior(s.Least - 1): false, next(s.Most + 1): false, s.Least - 2: false, s.Most + 2: false}
		for speed, fits := range ends {
			if speed <= 0 {
				continue
			}
			for angle, want := range map[int]bool{s.From: fits, s.To: fits, s.From - 5: fits, min(180, s.To+5): fits, s.From - 6: false, s.From - 20: false} {
				for _, heading := range []int{angle, (360 - angle) % 360} {
					if checkYacht(t, drifting(northWind(speed), heading, i)) != want {
						t.Errorf("%s at %v and %d: %v", s.Name, speed, heading, !want)
					}
				}
			}
			if s.To < 175 && checkYacht(t, drifting(northWind(speed), s.To+6, i)) {
				t.Errorf("%s at %v and %d", s.Name, speed, s.To+6)
			}
		}
		for _, calm := range calms() {
			if checkYacht(t, drifting(calm, 90, i)) {
				t.Errorf("%s in a calm", s.Name)
			}
		}
	}
}

// What a sail must fit is what is felt on the boat with her own speed, not the true wind.
func TestYachtOkOfASailAndTheSpeed(t *testing.T) {
	cases := []struct {
		heading int
		sail    impl.Sail
		want    bool
	}{
		// In a north wind of 4: across it by 6 she feels 7.2 from 34 degrees, and ahead of it by 3 she feels 1.
		{90, cut("a", 8.3, 9, 34, 34), false}, {90, cut("a", 8.2, 9, 34, 34), true}, {90, cut("a", 2, 6.2, 34, 34), false}, {90, cut("a", 2, 6.3, 34, 34), true}, {90, cut("a", 4, 9, 40, 180), false}, {90, cut("a", 4, 9, 39, 180), true}, {90, cut("a", 4, 9, 0, 28), false}, {90, cut("a", 4, 9, 0, 29), true}, {90, cut("a", 3.9, 4.1, 90, 90), false}, {270, cut("a", 7, 9, 34, 34), true},
		{180, cut("a", 0.5, 2, 180, 180), true}, {180, cut("a", 2.5, 4, 180, 180), false}, {180, cut("a", 2, 4, 180, 180), true}, {180, cut("a", 4, 5, 175, 180), false}, {0, cut("a", 4, 5, 0, 0), true}, {0, cut("a", 6, 7, 0, 0), false},
	}
	for _, c := range cases {
		y := sailing()
		y.Heading, y.B.S = c.heading, []impl.Sail{c.sail}
		if checkYacht(t, y) != c.want {
			t.Errorf("%v at %d: %v", c.sail, c.heading, !c.want)
		}
	}
}
