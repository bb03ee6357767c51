package tests

import (
	"math"
	"slices"
	"testing"

	"loop.example/g03321/impl"
)

// heldPolar is a polar that is given to a function, with other elements in the room behind its lists.
type heldPolar struct {
	given  impl.Polar
	winds  held[float32]
	angles held[int]
	rows   []held[float32]
}

// holdPolar returns a copy of a polar that has such room.
func holdPolar(p impl.Polar) heldPolar {
	h := heldPolar{winds: hold(p.Winds, -7, 300), angles: hold(p.Angles, 7, -200)}
	h.given = impl.Polar{Winds: h.winds.given, Angles: h.angles.given}
	for _, row := range p.Speeds {
		h.rows = append(h.rows, hold(row, -1, 77))
		h.given.Speeds = append(h.given.Speeds, h.rows[len(h.rows)-1].given)
	}
	h.given.Speeds = append(h.given.Speeds, []float32{-3}, nil)[:len(p.Speeds)]
	return h
}

// check checks that nothing is written into the polar or the room behind its lists.
func (h heldPolar) check(t *testing.T) {
	t.Helper()
	h.winds.check(t, sameSingle)
	h.angles.check(t, func(a, b int) bool { return a == b })
	for i, row := range h.rows {
		row.check(t, sameSingle)
		if given := h.given.Speeds[i]; len(given) != len(row.given) || len(given) > 0 && &given[0] != &row.whole[0] {
			t.Fatalf("the row %d, %v, has become %v", i, row.given, given)
		}
	}
	n := len(h.rows)
	if behind := h.given.Speeds[:n+2][n:]; !slices.Equal(behind[0], []float32{-3}) || behind[1] != nil {
		t.Fatalf("behind the rows there is %v", behind)
	}
}

// racer returns a polar that sails each edge in any wind: best at 40 degrees up, and at 154 down in a wind
// of 4.
func racer() impl.Polar {
	return impl.Polar{Winds: []float32{4, 8}, Angles: []int{0, 40, 90, 180}, Speeds: [][]float32{{0, 4, 6, 3}, {0, 6, 8, 5}}}
}

// skewer returns a polar that makes 5 in a wind of 10 between 44 and 136 degrees, and that neither beats
// nor runs, since it is best at 1 degree, and at 179.
func skewer() impl.Polar {
	return oneRow([]int{1, 2, 44, 136, 178, 179}, 50, 0, 5, 5, 0, 50)
}

// beside reports whether two nodes, each by its row and its column, are neighbours.
func beside(f impl.Field, a, b int) bool {
	for rows := -1; rows <= 1; rows++ {
		for columns := -1; columns <= 1; columns++ {
			row, column := a/f.Wide+rows, a%f.Wide+columns
			if a != b && row >= 0 && column >= 0 && row < f.High && column < f.Wide && b == row*f.Wide+column {
				return true
			}
		}
	}
	return false
}

// edgeOf follows the rule for EdgeTime.
func edgeOf(f impl.Field, p impl.Polar, a, b, time int) (int, bool) {
	w, told := windOf(f, a, time)
	if !told || b < 0 || b >= f.Wide*f.High || !beside(f, a, b) {
		return 0, false
	}
	return timeOf(p, w, lessOf(nodePlace(f, b), nodePlace(f, a)))
}

// checkEdge returns EdgeTime, after a look that it follows its rule, and that nothing is written into the
// arguments.
func checkEdge(t *testing.T, f impl.Field, p impl.Polar, a, b, time int) (int, bool) {
	t.Helper()
	field, polar := holdField(f), holdPolar(p)
	got, ok := impl.EdgeTime(field.given, polar.given, a, b, time)
	again, fine := impl.EdgeTime(field.given, polar.given, a, b, time)
	field.check(t)
	polar.check(t)
	if want, told := edgeOf(f, p, a, b, time); got != want || ok != told || again != want || fine != told {
		t.Fatalf("EdgeTime(%v, %v, %d, %d, %d): %d %v, and then %d %v, want %d %v", f, p, a, b, time, got, ok, again, fine, want, told)
	}
	return got, ok
}

func TestEdgeTimeInEachDirection(t *testing.T) {
	// From southwest to northeast, in the order of the nodes, in a wind from the north, and so on.
	for w, want := range map[complex64][9]int{
		-4: {189, 173, 189, 100, 0, 100, 203, 196, 203}, -4i: {189, 100, 203, 173, 0, 196, 189, 100, 203},
		4: {203, 196, 203, 100, 0, 100, 189, 173, 189}, 4i: {203, 100, 189, 196, 0, 173, 203, 100, 189},
	} {
		for _, f := range []impl.Field{steadyField(3, 3, 600, w), steadyField(4, 3, 600, w), steadyField(3, 5, 600, w), steadyField(12, 12, 600, w)} {
			for a := range f.Wide * f.High {
				for b := range f.Wide * f.High {
					rows, columns := b/f.Wide-a/f.Wide, b%f.Wide-a%f.Wide
					seconds := 0
					if max(rows, -rows, columns, -columns) <= 1 {
						seconds = want[3*rows+columns+4]
					}
					if got, ok := impl.EdgeTime(f, racer(), a, b, 77); got != seconds || ok != (seconds > 0) {
						t.Fatalf("from %d to %d of %d by %d in %v: %d %v, want %d", a, b, f.Wide, f.High, w, got, ok, seconds)
					}
				}
			}
		}
	}
}

func TestEdgeTimeOfSmallNumbers(t *testing.T) {
	small, large, least := steadyField(3, 2, 600, -4, -8, 0), steadyField(2, 2, impl.MaxMesh, -8), steadyField(2, 3, impl.MinMesh, -4)
	small.Hours[0][2], small.Hours[1][5] = 4i, complex(0, -0.004)
	skew := steadyField(3, 3, 600, -10)
	for _, c := range []struct {
		f          impl.Field
		p          impl.Polar
		a, b, time int
		want       int
		ok         bool
	}{
		{small, racer(), 0, 1, 0, 100, true}, {small, racer(), 1, 0, 3599, 100, true}, {small, racer(), 0, 1, 3600, 75, true}, {small, racer(), 0, 1, 7199, 75, true}, {small, racer(), 0, 1, 7200, 0, false}, {small, racer(), 0, 1, impl.MaxTime, 0, false},
		// The wind is that at the first node, when it is left.
		{small, racer(), 1, 2, 0, 100, true}, {small, racer(), 2, 1, 0, 196, true}, {small, racer(), 2, 5, 0, 100, true}, {small, racer(), 5, 2, 0, 173, true}, {small, racer(), 5, 2, 3600, 100000, true}, {small, racer(), 2, 5, 3600, 131, true}, {small, racer(), 4, 5, 3600, 75, true},
		// Not neighbours: itself, two columns or two rows apart, the last of a row and the first of the next one.
		{small, racer(), 1, 1, 0, 0, false}, {small, racer(), 0, 2, 0, 0, false}, {small, racer(), 2, 0, 0, 0, false}, {small, racer(), 2, 3, 0, 0, false}, {small, racer(), 3, 2, 0, 0, false}, {small, racer(), 0, 5, 0, 0, false}, {small, racer(), 3, 5, 0, 0, false}, {least, racer(), 0, 4, 0, 0, false}, {least, racer(), 5, 1, 0, 0, false}, {least, racer(), 1, 4, 0, 0, false},
		// The last of a row and the first of the next one of two columns are neighbours.
		{least, racer(), 1, 2, 0, 4, true}, {least, racer(), 2, 1, 0, 4, true}, {least, racer(), 0, 1, 0, 2, true}, {least, racer(), 3, 5, 0, 4, true}, {large, racer(), 0, 1, impl.MaxTime, 12500, true}, {large, racer(), 0, 2, impl.MaxTime, 21757, true},
		// Edges that cannot be sailed, since the boat can neither beat nor run, has no speed there, or no best angle.
		{skew, skewer(), 4, 7, 0, 0, false}, {skew, skewer(), 4, 1, 0, 0, false}, {skew, skewer(), 4, 3, 0, 120, true}, {skew, skewer(), 4, 8, 0, 170, true}, {skew, skewer(), 4, 0, 0, 170, true}, {skew, peaked(40, 140, 5, 4, 0), 4, 5, 0, 0, false}, {skew, peaked(40, 140, 5, 4, 0), 4, 8, 0, 0, false}, {skew, peaked(40, 140, 5, 4, 0), 4, 7, 0, 157, true},
		{skew, oneRow([]int{90, 91, 180}, 0, 5, 5), 4, 3, 0, 0, false}, {skew, oneRow([]int{0, 60, 90, 91}, 3, 4, 0, 0), 4, 7, 0, 0, false},
		// So slow that it takes as many seconds as may be told, and more.
		{steadyField(2, 2, impl.MaxMesh, -10), between60And120(next(0.01)), 0, 1, 0, impl.MaxTime, true}, {steadyField(2, 2, impl.MaxMesh, -10), between60And120(0.01), 0, 1, 0, 0, false}, {steadyField(2, 2, impl.MaxMesh, -10), between60And120(0.0099), 0, 1, 5, 0, false}, {steadyField(2, 2, impl.MinMesh, -10), between60And120(50), 0, 1, 5, 1, true},
	} {
		if got, ok := checkEdge(t, c.f, c.p, c.a, c.b, c.time); got != c.want || ok != c.ok {
			t.Errorf("from %d to %d of %d by %d at %d: %d %v, want %d %v", c.a, c.b, c.f.Wide, c.f.High, c.time, got, ok, c.want, c.ok)
		}
	}
}

func TestEdgeTimeFollowsItsRule(t *testing.T) {
	d, times, told, untold := dice(123), hourTimes(), 0, 0
	polars := append(tackPolars(), slices.Repeat([]impl.Polar{cruiser(), racer()}, 60)...)
	for _, f := range goodFields() {
		p := polars[d.upTo(len(polars))]
		for range 5 {
			a := d.upTo(f.Wide * f.High)
			for rows := -2; rows <= 2; rows++ {
				columns := d.upTo(5) - 2
				if _, ok := checkEdge(t, f, p, a, a+rows*f.Wide+columns, times[d.upTo(len(times))]); ok {
					told++
				} else if rows*rows <= 1 && columns*columns <= 1 {
					untold++
				}
			}
		}
	}
	if told < 1000 || untold < 500 {
		t.Error("only few edges are sailed, or not:", told, untold)
	}
}

func TestEdgeTimeOfWhatIsNotValid(t *testing.T) {
	f := steadyField(4, 3, 600, -4, 5i)
	refuse := func(name string, f impl.Field, p impl.Polar, a, b, time int) {
		t.Helper()
		if got, ok := checkEdge(t, f, p, a, b, time); ok || got != 0 {
			t.Errorf("%s, from %d to %d at %d: %d %v", name, a, b, time, got, ok)
		}
	}
	for name, broken := range brokenFields() {
		for _, b := range []int{1, 4, 5, 13, -1} {
			refuse(name, broken, racer(), 0, b, 0)
			refuse(name, broken, racer(), b, 0, 4000)
		}
	}
	for name, p := range brokenPolars() {
		for _, b := range []int{0, 1, 2, 4, 5} {
			refuse(name, f, p, 0, b, 0)
			refuse(name, f, p, b, 1, 4000)
		}
	}
	for _, time := range brokenTimes() {
		refuse("a time", f, racer(), 0, 1, time)
		refuse("a time", f, racer(), 5, 9, time)
	}
	for _, n := range noIndexes(12) {
		for _, other := range []int{0, 1, 3, 4, 8, 11, n, -n} {
			refuse("a node", f, racer(), n, other, 0)
			refuse("a node", f, racer(), other, n, impl.MaxTime)
		}
	}
}

// sailOf follows the rule for SailWay, from the last node back.
func sailOf(f impl.Field, p impl.Polar, way []int, time int) (int, bool) {
	n := len(way)
	if !fieldFine(f) || !impl.PolarOk(p) || n == 0 || n > 200 || time < 0 || time > 10000000 || way[n-1] < 0 || way[n-1] >= f.Wide*f.High {
		return 0, false
	}
	if n == 1 {
		return time, true
	}
	before, ok := sailOf(f, p, way[:n-1], time)
	seconds, fine := impl.EdgeTime(f, p, way[n-2], way[n-1], before)
	if !ok || !fine || before+seconds > 10000000 {
		return 0, false
	}
	return before + seconds, true
}

// checkSailed returns SailWay, after a look that it follows its rule, and that nothing is written into the
// arguments.
func checkSailed(t *testing.T, f impl.Field, p impl.Polar, way []int, time int) (int, bool) {
	t.Helper()
	field, polar, nodes := holdField(f), holdPolar(p), hold(way, 0, 1, -1)
	got, ok := impl.SailWay(field.given, polar.given, nodes.given, time)
	again, fine := impl.SailWay(field.given, polar.given, nodes.given, time)
	field.check(t)
	polar.check(t)
	nodes.check(t, func(a, b int) bool { return a == b })
	if want, told := sailOf(f, p, way, time); got != want || ok != told || again != want || fine != told {
		t.Fatalf("SailWay(%v, %v, %v, %d): %d %v, and then %d %v, want %d %v", f, p, way, time, got, ok, again, fine, want, told)
	}
	return got, ok
}

// pendulum returns a way of n nodes to and fro between two of them.
func pendulum(a, b, n int) []int { return slices.Repeat([]int{a, b}, n)[:n] }

func TestSailWayOfSmallNumbers(t *testing.T) {
	f := steadyField(4, 3, 600, -4, -8, -4)
	f.Hours[0][6], f.Hours[2][6] = 4i, 0
	for _, c := range []struct {
		way  []int
		time int
		want int
		ok   bool
	}{
		{[]int{0}, 0, 0, true}, {[]int{11}, 77, 77, true}, {[]int{6}, impl.MaxTime, impl.MaxTime, true}, {[]int{0, 1}, 0, 100, true}, {[]int{0, 1, 2, 3}, 50, 350, true}, {[]int{0, 4, 8, 4, 0}, 0, 2*196 + 2*173, true}, {[]int{0, 5, 10}, 10, 416, true}, {[]int{10, 5, 0}, 10, 388, true},
		// A node of another wind, and an hour that begins.
		{[]int{2, 6, 10}, 0, 296, true}, {[]int{2, 6, 5}, 0, 196 + 196, true}, {[]int{0, 1, 2}, 3500, 3675, true}, {[]int{0, 1, 2}, 3499, 3699, true}, {[]int{1, 0, 1, 2, 3}, 3400, 3750, true}, {[]int{0, 1, 2, 3}, 7060, 7310, true}, {[]int{2, 6}, 7200, 7396, true}, {[]int{2, 6, 2}, 7200, 0, false}, {[]int{2, 6, 2}, 7003, 7003 + 131 + 113, true}, {[]int{2, 6, 2}, 7069, 0, false}, {[]int{2, 6, 2}, 7068, 7199 + 113, true},
		// A node twice, apart and one behind the other.
		{[]int{0, 1, 0}, 0, 200, true}, {[]int{0, 1, 0, 1}, 0, 300, true}, {[]int{0, 1, 5, 4, 0, 1}, 0, 100 + 196 + 100 + 173 + 100, true}, {[]int{0, 0}, 0, 0, false}, {[]int{0, 1, 1}, 0, 0, false}, {[]int{0, 0, 1}, 0, 0, false}, {[]int{0, 1, 1, 2}, 0, 0, false},
		// Nodes that are not next to each other.
		{[]int{0, 2}, 0, 0, false}, {[]int{3, 4}, 0, 0, false}, {[]int{0, 1, 3}, 0, 0, false}, {[]int{0, 8, 9}, 0, 0, false}, {[]int{0, 1, 2, 3, 4, 5}, 0, 0, false},
		// The last time there is.
		{[]int{0, 1}, impl.MaxTime - 100, impl.MaxTime, true}, {[]int{0, 1}, impl.MaxTime - 99, 0, false}, {[]int{0, 1, 2}, impl.MaxTime - 200, impl.MaxTime, true}, {[]int{0, 1, 2}, impl.MaxTime - 199, 0, false}, {[]int{0, 1, 2}, impl.MaxTime - 100, 0, false}, {[]int{0, 1, 2}, impl.MaxTime - 99, 0, false}, {[]int{0, 1}, impl.MaxTime, 0, false},
		{nil, 0, 0, false}, {[]int{}, 500, 0, false},
	} {
		if got, ok := checkSailed(t, f, racer(), c.way, c.time); got != c.want || ok != c.ok {
			t.Errorf("%v at %d: %d %v, want %d %v", c.way, c.time, got, ok, c.want, c.ok)
		}
	}
}

// No node, one, as many as may be, and one more.
func TestSailWayOfManyNodes(t *testing.T) {
	f := steadyField(2, 3, 600, -4)
	for n := range impl.MaxWay + 60 {
		want := 30 + 100*(n-1)
		if n == 0 || n > 200 {
			want = 0
		}
		if got, ok := impl.SailWay(f, racer(), pendulum(2, 3, n), 30); got != want || ok != (want > 0) {
			t.Errorf("%d nodes: %d %v, want %d", n, got, ok, want)
		}
	}
	checkSailed(t, f, racer(), pendulum(2, 3, impl.MaxWay), 30)
	checkSailed(t, f, racer(), pendulum(2, 3, impl.MaxWay+1), 30)
	if got, ok := impl.SailWay(f, racer(), pendulum(5, 4, impl.MaxWay), impl.MaxTime-19900); got != impl.MaxTime || !ok {
		t.Error("up to the last time:", got, ok)
	}
	if got, ok := impl.SailWay(f, racer(), pendulum(5, 4, impl.MaxWay), impl.MaxTime-19899); got != 0 || ok {
		t.Error("a second beyond it:", got, ok)
	}
}

// What is no node, and an edge that is none, is seen at each place of a way.
func TestSailWayAtEachPlace(t *testing.T) {
	f, short, long := steadyField(3, 4, 600, -4), []int{0, 1, 2, 5, 4}, pendulum(4, 8, impl.MaxWay)
	for _, whole := range [][]int{{7}, {0, 1}, short, long} {
		if _, ok := checkSailed(t, f, racer(), whole, 0); !ok {
			t.Fatalf("%v is not sailed", whole)
		}
		for i := range whole {
			bad := noIndexes(12)
			if len(whole) == impl.MaxWay {
				bad = bad[i%len(bad):][:1]
			}
			for _, n := range bad {
				way := slices.Clone(whole)
				way[i] = n
				if got, ok := checkSailed(t, f, racer(), way, 0); ok || got != 0 {
					t.Errorf("%v: %d %v", way, got, ok)
				}
			}
			if len(whole) < impl.MaxWay {
				if got, ok := checkSailed(t, f, racer(), slices.Insert(slices.Clone(whole), i, whole[i]), 0); ok || got != 0 {
					t.Errorf("%d twice in %v: %d %v", i, whole, got, ok)
				}
			}
			// A node that is next to none of the others.
			far := slices.Clone(whole)
			far[i] = 9
			if got, ok := checkSailed(t, f, racer(), far, 0); ok != (len(whole) == 1) {
				t.Errorf("%v: %d %v", far, got, ok)
			}
		}
	}
}

func TestSailWayFollowsItsRule(t *testing.T) {
	d, told, untold := dice(124), 0, 0
	for _, f := range goodFields() {
		for range 3 {
			way := []int{d.upTo(f.Wide * f.High)}
			for range d.upTo(12) {
				a, rows, columns := way[len(way)-1], d.upTo(3)-1, d.upTo(3)-1
				if b := a + rows*f.Wide + columns; beside(f, a, b) || d.upTo(20) == 0 {
					way = append(way, b)
				}
			}
			if _, ok := checkSailed(t, f, cruiser(), way, d.upTo(20000)); ok {
				told++
			} else {
				untold++
			}
		}
	}
	if told < 500 || untold < 200 {
		t.Error("only few ways are sailed, or not:", told, untold)
	}
}

// Also where the way is one node alone, the field, the polar and the time count.
func TestSailWayOfWhatIsNotValid(t *testing.T) {
	f, ways := steadyField(4, 3, 600, -4, 5i), [][]int{{0}, {0, 1}, {1, 0, 4, 5}, nil, {0, 0}}
	for _, way := range ways {
		refuse := func(name string, f impl.Field, p impl.Polar, time int) {
			t.Helper()
			if got, ok := checkSailed(t, f, p, way, time); ok || got != 0 {
				t.Errorf("%s, %v at %d: %d %v", name, way, time, got, ok)
			}
		}
		for name, broken := range brokenFields() {
			refuse(name, broken, racer(), 0)
		}
		for name, p := range brokenPolars() {
			refuse(name, f, p, 4000)
		}
		for _, time := range brokenTimes() {
			refuse("a time", f, racer(), time)
		}
		refuse("nothing", impl.Field{}, impl.Polar{}, math.MinInt)
	}
}
