package tests

import (
	"math"
	"slices"
	"testing"

	"loop.example/g03321/impl"
)

// sameCourse reports whether two courses are the same.
func sameCourse(a, b impl.Course) bool {
	return a.Start == b.Start && a.Finish == b.Finish && slices.Equal(a.Marks, b.Marks)
}

// sameBoat reports whether two boats are the same.
func sameBoat(a, b impl.Boat) bool {
	return samePolar(a.P, b.P) && sameTide(a.T, b.T) && slices.EqualFunc(a.S, b.S, sameSail) && sameCourse(a.C, b.C)
}

// sameYacht reports whether two yachts are the same in every field, to the last bit.
func sameYacht(a, b impl.Yacht) bool {
	numbers := a.Time == b.Time && a.Heading == b.Heading && a.Sail == b.Sail
	floats := sameComplex(a.Pos, b.Pos) && sameWind(a.Wind, b.Wind)
	return numbers && floats && slices.Equal(a.Track, b.Track) && slices.Equal(a.Log, b.Log) && sameBoat(a.B, b.B)
}

// copyOfBoat returns a boat that shares no list with the given one.
func copyOfBoat(b impl.Boat) impl.Boat {
	c := b.C
	c.Marks = slices.Clone(c.Marks)
	return impl.Boat{P: copyOf(b.P), T: copyOfTide(b.T), S: slices.Clone(b.S), C: c}
}

// copyOfYacht returns a yacht that shares no list with the given one.
func copyOfYacht(y impl.Yacht) impl.Yacht {
	y.B, y.Track, y.Log = copyOfBoat(y.B), slices.Clone(y.Track), slices.Clone(y.Log)
	return y
}

// heldYacht is a yacht that is given to a function, with other elements in the room behind its lists.
type heldYacht struct {
	given    impl.Yacht
	before   impl.Yacht
	polar    heldPolar
	stations held[impl.Station]
	highs    held[int]
	sails    held[impl.Sail]
	marks    held[impl.Mark]
	track    held[impl.Sight]
	log      held[string]
}

// holdYacht returns a copy of a yacht that has such room.
func holdYacht(y impl.Yacht) heldYacht {
	h := heldYacht{given: y, before: copyOfYacht(y), polar: holdPolar(y.B.P), sails: holdSails(y.B.S)}
	h.stations, h.highs = hold(y.B.T.Stations, stations(2)...), hold(y.B.T.Highs, -7, -8)
	h.marks = hold(y.B.C.Marks, toStarboard(-77, 78), impl.Mark{})
	h.track, h.log = hold(y.Track, sight(-77, 78, -79), impl.Sight{}), hold(y.Log, "go 0", "")
	h.given.B.P, h.given.B.S, h.given.B.C.Marks = h.polar.given, h.sails.given, h.marks.given
	h.given.B.T = impl.Tide{Stations: h.stations.given, Highs: h.highs.given}
	h.given.Track, h.given.Log = h.track.given, h.log.given
	return h
}

// holdBoat returns a yacht that holds a boat.
func holdBoat(b impl.Boat) heldYacht { return holdYacht(impl.Yacht{B: b}) }

// check checks that nothing is written into the yacht or the room behind its lists.
func (h heldYacht) check(t *testing.T) {
	t.Helper()
	h.polar.check(t)
	h.stations.check(t, sameStation)
	h.highs.check(t, func(a, b int) bool { return a == b })
	h.sails.check(t, sameSail)
	h.marks.check(t, func(a, b impl.Mark) bool { return a == b })
	h.track.check(t, func(a, b impl.Sight) bool { return a == b })
	h.log.check(t, func(a, b string) bool { return a == b })
	if !sameYacht(h.given, h.before) {
		t.Fatalf("%v has become %v", h.before, h.given)
	}
}

// fill writes into all elements of a list, and into the room behind it.
func fill[E any](list []E, element E) {
	for i := range list[:cap(list)] {
		list[:cap(list)][i] = element
	}
}

// holds reports whether all of a list, and the room behind it, is what fill has written.
func holds[E comparable](list []E, element E) bool {
	return !slices.ContainsFunc(list[:cap(list)], func(e E) bool { return e != element })
}

// spoil writes into all lists of a yacht, each in another way, and into the room behind them, and checks
// that no two of these lists share memory.
func spoil(t *testing.T, y impl.Yacht) {
	t.Helper()
	singles := append([][]float32{y.B.P.Winds}, y.B.P.Speeds...)
	wholes := [][]int{y.B.P.Angles, y.B.T.Highs}
	for i, list := range singles {
		fill(list, float32(-1000-i))
	}
	for i, list := range wholes {
		fill(list, -2000-i)
	}
	for i, list := range singles {
		if !holds(list, float32(-1000-i)) {
			t.Fatalf("the list %d of singles shares memory", i)
		}
	}
	for i, list := range wholes {
		if !holds(list, -2000-i) {
			t.Fatalf("the list %d of whole numbers shares memory", i)
		}
	}
	fill(y.B.P.Speeds, []float32{-7})
	fill(y.B.T.Stations, impl.Station{At: -7, Flow: steadyFlow(-7)})
	fill(y.B.S, cut("spoilt", -7, -7, -7, -7))
	fill(y.B.C.Marks, toStarboard(-7, -7))
	fill(y.Track, sight(-7, -7, -7))
	fill(y.Log, "spoilt")
}

// checkNewYacht checks that the yachts that a function returns, asked again and again, are alike, and
// share no memory; it writes into all lists of one of them.
func checkNewYacht(t *testing.T, ask func() impl.Yacht) {
	t.Helper()
	got, again := ask(), ask()
	kept := copyOfYacht(got)
	if !sameYacht(again, kept) {
		t.Fatalf("asked again: %v, want %v", again, kept)
	}
	spoil(t, again)
	if !sameYacht(got, kept) {
		t.Fatalf("%v has become %v", kept, got)
	}
	if last := ask(); !sameYacht(last, kept) {
		t.Fatalf("asked a third time: %v, want %v", last, kept)
	}
}

// stillWater returns a tide without streams.
func stillWater() impl.Tide { return impl.Tide{Stations: []impl.Station{{}}, Highs: []int{0}} }

// sloop returns a boat whose speeds are whole numbers at some angles to some winds, in still water.
func sloop() impl.Boat {
	p := impl.Polar{Winds: []float32{4, 8}, Angles: []int{0, 40, 90, 180}, Speeds: [][]float32{{0, 4, 6, 3}, {0, 6, 8, 5}}}
	sails := []impl.Sail{cut("main", 0, 50, 0, 180), cut("jib", 2, 12, 25, 80), cut("kite", 1, 8, 70, 180)}
	return impl.Boat{P: p, T: stillWater(), S: sails, C: courseOf(toPort(100, -10))}
}

// raft returns a boat that has the sails of an ordinary yacht, but no speed, so that the wind is felt as
// it is.
func raft() impl.Boat {
	return impl.Boat{P: flat([]float32{5}, []int{0, 180}, 0), T: stillWater(), S: cruising(), C: zigzag(3)}
}

// ketch returns the boat of an ordinary yacht in ordinary waters.
func ketch() impl.Boat {
	return impl.Boat{P: cruiser(), T: channel(), S: cruising(), C: zigzag(5)}
}

// goodBoats returns valid boats of all kinds.
func goodBoats() []impl.Boat {
	list := []impl.Boat{sloop(), raft(), ketch()}
	polars, tides, courses := goodPolars(), goodTides(), goodCourses()
	lockers := slices.DeleteFunc(goodSails(), func(list []impl.Sail) bool { return len(list) == 0 })
	for i := range max(len(polars), len(tides), len(lockers), len(courses)) {
		list = append(list, impl.Boat{P: polars[i%len(polars)], T: tides[i%len(tides)], S: lockers[i%len(lockers)], C: courses[i%len(courses)]})
	}
	return list
}

// brokenBoats returns boats that are not valid, by what they lack.
func brokenBoats() map[string]impl.Boat {
	list := map[string]impl.Boat{"nothing": {}}
	put := func(name string, change func(b *impl.Boat)) {
		b := sloop()
		change(&b)
		list[name] = b
	}
	for name, p := range brokenPolars() {
		put("polar "+name, func(b *impl.Boat) { b.P = p })
	}
	for name, tide := range brokenTides() {
		put("tide "+name, func(b *impl.Boat) { b.T = tide })
	}
	for name, sails := range brokenLockers() {
		put("sails "+name, func(b *impl.Boat) { b.S = sails })
	}
	for name, c := range brokenCourses() {
		put("course "+name, func(b *impl.Boat) { b.C = c })
	}
	put("no sails", func(b *impl.Boat) { b.S = []impl.Sail{} })
	put("no list of sails", func(b *impl.Boat) { b.S = nil })
	put("a sail that is called none", func(b *impl.Boat) { b.S[0].Name = "none" })
	return list
}

// boatFine follows the rule for BoatOk.
func boatFine(b impl.Boat) bool {
	parts := []bool{impl.PolarOk(b.P), impl.TideOk(b.T), impl.CourseOk(b.C), sailsFine(b.S), len(b.S) >= 1}
	return !slices.Contains(parts, false)
}

// checkBoat returns BoatOk, after a look that it follows its rule, and that nothing is written into the
// boat.
func checkBoat(t *testing.T, b impl.Boat) bool {
	t.Helper()
	h := holdBoat(b)
	got := impl.BoatOk(h.given.B)
	h.check(t)
	if want, again := boatFine(b), impl.BoatOk(h.given.B); got != want || again != want {
		t.Fatalf("BoatOk(%v): %v %v, want %v", b, got, again, want)
	}
	return got
}

func TestLimitsOfYachts(t *testing.T) {
	if impl.MaxLog != 300 || impl.MaxGo != 3600 {
		t.Error("limits:", impl.MaxLog, impl.MaxGo)
	}
}

func TestBoatOkAtItsEdges(t *testing.T) {
	for _, b := range goodBoats() {
		if !checkBoat(t, b) {
			t.Error("not valid:", b)
		}
	}
	for name, b := range brokenBoats() {
		if checkBoat(t, b) {
			t.Error("valid:", name)
		}
	}
	for n := range 3 * impl.MaxSails {
		b := sloop()
		b.S = locker(n)
		if checkBoat(t, b) != (n >= 1 && n <= 12) {
			t.Errorf("%d sails", n)
		}
	}
}

// edgePositions returns positions at the edge of what PlaceOf tells.
func edgePositions() []complex128 {
	parts := []float64{0, negativeZero, 5e-324, 0.5, -0.5, 2.25, -1234.5678, 9999.5, -9999.75, 10000, -10000, 10000.25, below(10000.5), above(-10000.5)}
	var list []complex128
	for _, a := range parts {
		for _, b := range parts {
			list = append(list, complex(a, b))
		}
	}
	return list
}

// brokenPositions returns positions beyond it, and what is no valid vector.
func brokenPositions() []complex128 {
	list := brokenVectors()
	for _, bad := range []float64{10000.5, -10000.5, above(10000.5), below(-10000.5), 10001, -10001, 1e5, -1e8, 1e8} {
		for _, other := range []float64{0, negativeZero, 3.5, -10000, bad, math.NaN()} {
			list = append(list, complex(bad, other), complex(other, bad))
		}
	}
	return list
}

// checkBegun returns the yacht that NewYacht tells, after a look that it is what is given and nothing else,
// that nothing is written into the boat, and that the yacht is new.
func checkBegun(t *testing.T, b impl.Boat, pos complex128, time int) impl.Yacht {
	t.Helper()
	h := holdBoat(b)
	ask := func() impl.Yacht {
		got, ok := impl.NewYacht(h.given.B, pos, time)
		if want := (impl.Yacht{B: b, Time: time, Pos: pos, Sail: -1}); !ok || !sameYacht(got, want) {
			t.Fatalf("NewYacht(%v, %v, %d): %v %v", b, pos, time, got, ok)
		}
		return got
	}
	checkNewYacht(t, ask)
	h.check(t)
	return ask()
}

// checkNotBegun checks that there is no yacht, and that nothing is written into the boat.
func checkNotBegun(t *testing.T, name string, b impl.Boat, pos complex128, time int) {
	t.Helper()
	h := holdBoat(b)
	if got, ok := impl.NewYacht(h.given.B, pos, time); ok || !sameYacht(got, impl.Yacht{}) {
		t.Fatalf("%s, %v, %d: %v %v", name, pos, time, got, ok)
	}
	h.check(t)
}

func TestNewYachtAtItsEdges(t *testing.T) {
	places, times := edgePositions(), []int{0, 1, impl.Hour, impl.MaxTime - 1, impl.MaxTime}
	for i, b := range goodBoats() {
		for k := range 3 {
			y := checkBegun(t, b, places[(7*i+k)%len(places)], times[(i+k)%len(times)])
			if !impl.YachtOk(y) {
				t.Error("not valid:", y)
			}
		}
	}
	for _, pos := range places {
		checkBegun(t, sloop(), pos, impl.MaxTime)
	}
	for _, time := range times {
		checkBegun(t, ketch(), 3-4i, time)
	}
}

func TestNewYachtOfWhatIsNotValid(t *testing.T) {
	for name, b := range brokenBoats() {
		checkNotBegun(t, name, b, 0, 0)
		checkNotBegun(t, name, b, 10000-10000i, impl.MaxTime)
	}
	for _, b := range []impl.Boat{sloop(), ketch(), {}} {
		for _, pos := range brokenPositions() {
			checkNotBegun(t, "a position", b, pos, 0)
			checkNotBegun(t, "a position and a time", b, pos, -1)
		}
		for _, time := range brokenTimes() {
			checkNotBegun(t, "a time", b, 0, time)
		}
	}
}

// Also where lists of a boat share memory, those of the yacht do not: Winds and the rows are one list, and
// so are Angles and Highs but for the room.
func TestAYachtOfListsThatShareMemory(t *testing.T) {
	row, wholes := []float32{4, 8}, []int{0, 180, 30000, 60000}
	b := sloop()
	b.P = impl.Polar{Winds: row, Angles: wholes[:2], Speeds: [][]float32{row, row}}
	b.T.Highs = wholes[2:]
	y := checkBegun(t, b, 1+2i, 3)
	if _, ok := impl.Do(impl.Yacht{B: b, Sail: -1}, "go 5"); !ok {
		t.Fatal("not a valid yacht:", b)
	}
	for _, line := range []string{"go 5", "nothing"} {
		next, _ := impl.Do(impl.Yacht{B: b, Sail: -1}, line)
		all, _ := impl.DoAll(impl.Yacht{B: b, Sail: -1}, []string{line})
		again, _ := impl.Replay(b, 1, 2, []string{"go 5"})
		for _, y := range []impl.Yacht{next, all, again} {
			spoil(t, y)
		}
	}
	spoil(t, y)
	if !slices.Equal(row, []float32{4, 8}) || !slices.Equal(wholes, []int{0, 180, 30000, 60000}) {
		t.Error("the boat has become", b)
	}
}
