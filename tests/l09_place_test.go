package tests

import (
	"math"
	"math/big"
	"slices"
	"testing"

	"loop.example/g03321/impl"
)

// at returns a place.
func at(x, y int) impl.Place { return impl.Place{X: x, Y: y} }

// inSea reports whether a place is valid.
func inSea(p impl.Place) bool { return max(p.X, p.Y) <= 10000 && min(p.X, p.Y) >= -10000 }

// lineFrom returns the line whose Port is at (a, b), and whose Starboard is at (c, d).
func lineFrom(a, b, c, d int) impl.Line { return impl.Line{Port: at(a, b), Starboard: at(c, d)} }

// turnedLine returns a line from its other end.
func turnedLine(l impl.Line) impl.Line { return impl.Line{Port: l.Starboard, Starboard: l.Port} }

// sight returns where a boat is at a time.
func sight(x, y, time int) impl.Sight { return impl.Sight{At: at(x, y), Time: time} }

// brokenParts returns numbers that are neither X nor Y of a valid place.
func brokenParts() []int {
	const edge = impl.MaxPlace
	list := []int{edge + 1, -edge - 1, edge + 2, -edge - 77, 2 * edge, -3 * edge, 1 << 31, 1<<32 + 5, 5 - 1<<32, 1 << 48, -1 << 62}
	return append(list, math.MinInt, math.MinInt+1, math.MinInt+edge, math.MaxInt, math.MaxInt-1, math.MaxInt-edge)
}

// goodPlaces returns valid places at the edges and within.
func goodPlaces() []impl.Place {
	const edge = impl.MaxPlace
	parts := []int{0, 1, -1, 7, -250, 5000, edge - 1, 1 - edge, edge, -edge}
	var list []impl.Place
	for _, x := range parts {
		for _, y := range parts {
			list = append(list, at(x, y))
		}
	}
	return list
}

// brokenPlaces returns places that are not valid by their X, their Y, or both.
func brokenPlaces() []impl.Place {
	var list []impl.Place
	for _, bad := range brokenParts() {
		for _, other := range []int{0, 1, -40, impl.MaxPlace, -impl.MaxPlace, bad, math.MinInt} {
			list = append(list, at(bad, other), at(other, bad))
		}
	}
	return list
}

// goodLines returns valid lines: of a metre and of the greatest length, along an axis and aslant.
func goodLines() []impl.Line {
	const edge = impl.MaxPlace
	list := []impl.Line{
		lineFrom(0, 0, 1, 0), lineFrom(0, 0, 0, 1), lineFrom(edge, edge, edge, edge-1), lineFrom(-edge, 3, 1-edge, 3), lineFrom(5, -5, 6, -4),
		lineFrom(0, -10, 0, 10), lineFrom(20, 5, -20, 5), lineFrom(-100, -40, 60, 300), lineFrom(3, 4, -997, 713), lineFrom(1000, 2000, 1300, 1600),
		lineFrom(-edge, -edge, edge, edge), lineFrom(edge, -edge, -edge, edge), lineFrom(-edge, 0, edge, 0), lineFrom(0, -edge, 0, edge), lineFrom(-edge, edge, edge, edge), lineFrom(1-edge, edge, edge, -edge),
	}
	for _, l := range slices.Clone(list) {
		list = append(list, turnedLine(l))
	}
	return list
}

// brokenLines returns lines that are not valid: with both places alike, or not valid in one part or
// in more.
func brokenLines() []impl.Line {
	var list []impl.Line
	for _, p := range goodPlaces() {
		list = append(list, impl.Line{Port: p, Starboard: p})
	}
	for i, bad := range brokenParts() {
		for _, l := range []impl.Line{lineFrom(0, -10, 0, 10), lineFrom(i, 3*i, -50, impl.MaxPlace)} {
			for _, part := range []*int{&l.Port.X, &l.Port.Y, &l.Starboard.X, &l.Starboard.Y} {
				good := *part
				*part = bad
				list = append(list, l)
				*part = good
			}
		}
		list = append(list, lineFrom(bad, bad, bad, bad), lineFrom(0, bad, 0, 10), lineFrom(bad, 4, bad, 0), lineFrom(0, 0, bad, math.MinInt))
	}
	return list
}

// pacing returns a track of n sights, one each few seconds.
func pacing(n int) []impl.Sight {
	list := []impl.Sight{}
	for i := range n {
		list = append(list, sight(50*i-5000, 30-i*i/5, 100+7*i+i%3))
	}
	return list
}

// goodTracks returns valid tracks.
func goodTracks() [][]impl.Sight {
	const edge, last = impl.MaxPlace, impl.MaxTime
	list := [][]impl.Sight{
		nil, {}, {{}}, {sight(0, 0, last)}, {sight(edge, -edge, 5)}, {sight(0, 0, 0), sight(0, 0, last)}, {sight(3, 3, 0), sight(3, 3, 1), sight(3, 3, 2)},
		{sight(-edge, -edge, last-1), sight(edge, edge, last)}, {sight(0, edge, 0), sight(1, -edge, 1), sight(edge, 0, last-1), sight(-edge, 1, last)},
	}
	for _, n := range []int{1, 2, 3, 10, impl.MaxTrack - 1, impl.MaxTrack} {
		even, late := pacing(n), pacing(n)
		for i := range n {
			even[i].Time, late[i].Time = i, last+1-n+i
		}
		list = append(list, pacing(n), even, late)
	}
	return list
}

// brokenTracks returns tracks that are not valid: too long ones, and ones with one broken sight, or
// with times that are alike or that fall at one place.
func brokenTracks() [][]impl.Sight {
	list := [][]impl.Sight{pacing(impl.MaxTrack + 1), pacing(impl.MaxTrack + 2), make([]impl.Sight, impl.MaxTrack+1)}
	spoil := func(n, i int, change func(s *impl.Sight)) {
		track := pacing(n)
		change(&track[i])
		list = append(list, track)
	}
	for _, n := range []int{1, 2, 3, impl.MaxTrack} {
		for _, i := range []int{0, n / 2, n - 1} {
			for _, bad := range brokenParts() {
				spoil(n, i, func(s *impl.Sight) { s.At.X = bad })
				spoil(n, i, func(s *impl.Sight) { s.At.Y = bad })
			}
			for _, bad := range brokenTimes() {
				spoil(n, i, func(s *impl.Sight) { s.Time = bad })
			}
			if i > 0 {
				before := pacing(n)[i-1].Time
				for _, bad := range []int{before, before - 1, before - 50, 0} {
					spoil(n, i, func(s *impl.Sight) { s.Time = bad })
				}
			}
		}
	}
	return list
}

// spared returns a copy of a track that has room behind its sights, and all of that room.
func spared(track []impl.Sight) ([]impl.Sight, []impl.Sight) {
	whole := append(slices.Clone(track), sight(-77, 78, -79), sight(5, 6, impl.MaxTime), impl.Sight{})
	return whole[:len(track)], whole
}

// checkSpared checks that the track that spared copied, and the room behind it, is as it was.
func checkSpared(t *testing.T, track, whole []impl.Sight) {
	t.Helper()
	if _, want := spared(track); !slices.Equal(whole, want) {
		t.Fatalf("%v has become %v", want, whole)
	}
}

func TestLimitsOfPlaces(t *testing.T) {
	if impl.MaxPlace != 10000 || impl.MaxTrack != 200 {
		t.Error("limits:", impl.MaxPlace, impl.MaxTrack)
	}
}

func TestPlaceOkAtItsEdges(t *testing.T) {
	for _, p := range goodPlaces() {
		if !impl.PlaceOk(p) {
			t.Error("not valid:", p)
		}
	}
	for _, p := range brokenPlaces() {
		if impl.PlaceOk(p) {
			t.Error("valid:", p)
		}
	}
}

// nearestWhole returns the whole number that is nearest to x, by exact arithmetic: a half is added to
// its amount, which is cut off.
func nearestWhole(x float64) int {
	amount := new(big.Rat).SetFloat64(math.Abs(x))
	amount.Add(amount, big.NewRat(1, 2))
	whole := int(new(big.Int).Quo(amount.Num(), amount.Denom()).Int64())
	if x < 0 {
		return -whole
	}
	return whole
}

// checkPlace checks that PlaceOf follows its rule for a valid vector, and returns whether it is true.
func checkPlace(t *testing.T, pos complex128) bool {
	t.Helper()
	want := at(nearestWhole(real(pos)), nearestWhole(imag(pos)))
	fine := inSea(want)
	if !fine {
		want = impl.Place{}
	}
	got, ok := impl.PlaceOf(pos)
	if ok != fine || got != want {
		t.Fatalf("PlaceOf(%v): %v %v, want %v %v", pos, got, ok, want, fine)
	}
	return ok
}

func TestPlaceOfPositions(t *testing.T) {
	told, beyond := 0, 0
	list := append(wildVectors(3000), edgeVectors()...)
	d := dice(70)
	for range 20000 {
		list = append(list, complex(d.within(10010), d.within(10010)), complex(float64(d.upTo(80080)-40040)/4, float64(d.upTo(80080)-40040)/4))
	}
	for _, pos := range list {
		if checkPlace(t, pos) {
			told++
		} else {
			beyond++
		}
	}
	if told < 30000 || beyond < 500 {
		t.Error("only few positions have a place, or have none:", told, beyond)
	}
}

// Half between two whole numbers, just below and just above that, of both signs, in both parts.
func TestPlaceOfPositionsHalfBetweenTwo(t *testing.T) {
	look := func(x float64, want int) {
		t.Helper()
		for _, other := range []float64{0, negativeZero, -7.5, 10000.25} {
			for _, sign := range []int{1, -1} {
				y, n := float64(sign)*x, sign*want
				if got, ok := impl.PlaceOf(complex(y, other)); !ok || got.X != n {
					t.Fatalf("PlaceOf(%v): %v %v", complex(y, other), got, ok)
				}
				if got, ok := impl.PlaceOf(complex(other, y)); !ok || got.Y != n {
					t.Fatalf("PlaceOf(%v): %v %v", complex(other, y), got, ok)
				}
			}
		}
	}
	for n := range 10000 {
		half := float64(n) + 0.5
		look(half, n+1)
		look(below(half), n)
		look(above(half), n+1)
		look(float64(n), n)
	}
	for _, x := range []float64{0, negativeZero, 5e-324, 1e-300, 0.25, 0.49999999999999994} {
		look(x, 0)
	}
	look(10000, 10000)
	look(10000.25, 10000)
	look(below(10000.5), 10000)
	if got, ok := impl.PlaceOf(2.5 - 2.5i); got != at(3, -3) || !ok {
		t.Error("of halves of both signs:", got, ok)
	}
}

func TestPlaceOfPositionsBeyond(t *testing.T) {
	for _, x := range []float64{10000.5, above(10000.5), 10000.75, 10001, 20000, 1 << 16, 1 << 26, below(impl.MaxPlane), impl.MaxPlane} {
		for _, far := range []float64{x, -x} {
			for _, other := range []float64{0, 3.5, -10000, far} {
				for _, pos := range []complex128{complex(far, other), complex(other, far)} {
					if checkPlace(t, pos) {
						t.Errorf("%v has a place", pos)
					}
				}
			}
		}
	}
	for _, pos := range brokenVectors() {
		if got, ok := impl.PlaceOf(pos); ok || got != (impl.Place{}) {
			t.Errorf("PlaceOf(%v): %v %v", pos, got, ok)
		}
	}
}

func TestPlaceOfWholePositions(t *testing.T) {
	for _, p := range goodPlaces() {
		if got, ok := impl.PlaceOf(complex(float64(p.X), float64(p.Y))); got != p || !ok {
			t.Errorf("%v: %v %v", p, got, ok)
		}
	}
}

func TestLineOkAtItsEdges(t *testing.T) {
	for _, l := range goodLines() {
		if !impl.LineOk(l) {
			t.Error("not valid:", l)
		}
	}
	for _, l := range brokenLines() {
		if impl.LineOk(l) {
			t.Error("valid:", l)
		}
	}
	// It takes both parts to make two places alike.
	for _, p := range goodPlaces() {
		for _, q := range goodPlaces() {
			if l := (impl.Line{Port: p, Starboard: q}); impl.LineOk(l) != (p.X != q.X || p.Y != q.Y) {
				t.Error("a line:", l)
			}
		}
	}
}

func TestTrackOkAtItsEdges(t *testing.T) {
	for _, track := range goodTracks() {
		given, whole := spared(track)
		if !impl.TrackOk(given) {
			t.Error("not valid:", track)
		}
		checkSpared(t, track, whole)
	}
	for n := range impl.MaxTrack + 1 {
		if !impl.TrackOk(pacing(n)) {
			t.Errorf("%d sights", n)
		}
	}
	for _, track := range brokenTracks() {
		given, whole := spared(track)
		if impl.TrackOk(given) {
			t.Error("valid:", track)
		}
		checkSpared(t, track, whole)
	}
}

// Times that are alike, or that fall, are seen at each step, and broken sights at each place.
func TestTrackOkAtEachSight(t *testing.T) {
	for i := range impl.MaxTrack {
		for _, p := range []impl.Place{at(10001, 0), at(0, -10001)} {
			track := pacing(impl.MaxTrack)
			track[i].At = p
			if impl.TrackOk(track) {
				t.Errorf("valid: %v at %d", p, i)
			}
		}
		if i == 0 {
			continue
		}
		for aside, want := range map[int]bool{1: true, 0: false, -1: false, -90: false} {
			track := pacing(impl.MaxTrack)
			track[i].Time = track[i-1].Time + aside
			if impl.TrackOk(track) != want {
				t.Errorf("a step of %d seconds at %d: %v", aside, i, !want)
			}
		}
	}
	for time, want := range map[int]bool{-1: false, 0: true, 1: true, 10000000: true, 10000001: false} {
		if impl.TrackOk([]impl.Sight{sight(1, 2, time)}) != want {
			t.Errorf("a sight at %d: %v", time, !want)
		}
	}
}
