package tests

import (
	"fmt"
	"math"
	"slices"
	"testing"

	"loop.example/g03321/impl"
)

// sameHours reports whether two lists of hours have the same winds.
func sameHours(a, b [][]complex64) bool {
	return slices.EqualFunc(a, b, func(x, y []complex64) bool { return slices.EqualFunc(x, y, sameWind) })
}

// copyOfHours returns hours that share no list with the given ones.
func copyOfHours(hours [][]complex64) [][]complex64 {
	list := slices.Clone(hours)
	for h, winds := range list {
		list[h] = slices.Clone(winds)
	}
	return list
}

// heldField is a field that is given to a function, with other hours behind its own and other winds behind
// those of each hour, all of them, and what was in them before.
type heldField struct {
	given         impl.Field
	whole, before [][]complex64
}

// holdField returns a copy of a field that has such room.
func holdField(f impl.Field) heldField {
	whole := copyOfHours(f.Hours)
	for range 2 {
		whole = append(whole, alike(3+4i, 4))
	}
	whole = slices.Clip(whole)
	h := heldField{given: f, whole: slices.Clone(whole)}
	for i, winds := range whole {
		h.whole[i] = slices.Clip(append(slices.Clone(winds), 5, -7i, complex(float32(math.NaN()), 3)))
		whole[i] = h.whole[i][:len(winds)]
	}
	h.given.Hours, h.before = whole[:len(f.Hours)], copyOfHours(h.whole)
	return h
}

// check checks that nothing is written into the field or the room behind its lists.
func (h heldField) check(t *testing.T) {
	t.Helper()
	all := h.given.Hours[:len(h.whole)]
	for i, winds := range all {
		if !slices.EqualFunc(winds, h.before[i][:len(winds)], sameWind) || len(winds) != len(h.before[i])-3 || &winds[:1][0] != &h.whole[i][0] {
			t.Fatalf("the hour %d, %v, has become %v", i, h.before[i], winds)
		}
	}
	if !sameHours(h.whole, h.before) {
		t.Fatalf("%v has become %v", h.before, h.whole)
	}
}

// clippedField returns a copy of a field without any room.
func clippedField(f impl.Field) impl.Field {
	f.Hours = slices.Clip(copyOfHours(f.Hours))
	for h := range f.Hours {
		f.Hours[h] = slices.Clip(f.Hours[h])
	}
	return f
}

// steadyField returns a field that has one wind everywhere in each hour.
func steadyField(wide, high, mesh int, winds ...complex64) impl.Field {
	f := impl.Field{Wide: wide, High: high, Mesh: mesh}
	for _, w := range winds {
		f.Hours = append(f.Hours, alike(w, wide*high))
	}
	return f
}

// wildField returns a valid field with winds of some bearings and speeds, one of which now and then is 0,
// and now and then any valid wind.
func wildField(d *dice, wide, high, hours int) impl.Field {
	meshes := []int{impl.MinMesh, 100, 600, 1000, 3000, 7000, 20000, impl.MaxMesh}
	f := impl.Field{Wide: wide, High: high, Mesh: meshes[d.upTo(len(meshes))]}
	wild := append(wildWinds(50), edgeWinds()...)
	speeds, turns, every := []float64{2, 4, 8, 8}, []int{1, 5, 45, 90}[d.upTo(4)], 5+d.upTo(50)
	for range hours {
		winds, w := []complex64{}, windFrom(turns*d.upTo(360), speeds[d.upTo(len(speeds))])
		for range wide * high {
			switch d.upTo(every) {
			case 0:
				winds = append(winds, 0)
			case 1:
				winds = append(winds, wild[d.upTo(len(wild))])
			case 2, 3:
				w = windFrom(turns*d.upTo(360), speeds[d.upTo(len(speeds))])
				fallthrough
			default:
				winds = append(winds, w)
			}
		}
		f.Hours = append(f.Hours, winds)
	}
	return f
}

// goodFields returns valid fields of all kinds.
func goodFields() []impl.Field {
	d := dice(120)
	list := []impl.Field{}
	for _, wide := range []int{2, 3, 5, 11, impl.MaxGrid} {
		for _, high := range []int{2, 4, 7, 11, impl.MaxGrid} {
			for _, hours := range []int{1, 2, 23, impl.MaxHours} {
				list = append(list, wildField(&d, wide, high, hours))
			}
			for _, mesh := range []int{impl.MinMesh, impl.MinMesh + 1, 77777, impl.MaxMesh - 1, impl.MaxMesh} {
				list = append(list, steadyField(wide, high, mesh, 3-4i))
			}
		}
	}
	winds := edgeWinds()
	for i := range winds[:len(winds)-3] {
		f := steadyField(2, 3, 600, winds[i], 5)
		f.Hours[0][i%6], f.Hours[1][i%5], f.Hours[1][5] = winds[i+1], winds[i+2], winds[i+3]
		list = append(list, f)
	}
	return list
}

// brokenGrids returns fields whose Wide or High is not in its range, though each hour has as many winds as
// their product, wherever there may be so many, tells.
func brokenGrids(list map[string]impl.Field) {
	put := func(wide, high int) {
		for _, n := range []int{wide * high, 16, 0} {
			if 0 <= n && n <= 2000 {
				list[fmt.Sprint(wide, " by ", high, " with ", n)] = impl.Field{Wide: wide, High: high, Mesh: 600, Hours: [][]complex64{alike(4, n), alike(4, n)}}
			}
		}
	}
	for _, bad := range []int{1, 0, -1, -2, -4, -12, 13, 14, 24, 144, 1000, 1 << 32, 1<<32 + 4, -1 << 32, 1 << 62, 1<<62 + 4, 4 - 1<<62, math.MinInt, math.MinInt + 4, math.MinInt + 2, math.MaxInt, math.MaxInt - 3} {
		for _, other := range []int{2, 4, 8, impl.MaxGrid, bad, -bad, 1, 0, -4, 13, 1 << 32, 1 << 62} {
			put(bad, other)
			put(other, bad)
		}
	}
}

// brokenMeshes does the same with Mesh and the number of Hours.
func brokenMeshes(list map[string]impl.Field) {
	for _, bad := range []int{impl.MinMesh - 1, 1, 0, -1, -impl.MinMesh, -600, impl.MaxMesh + 1, 2 * impl.MaxMesh, 1<<32 + 600, -1 << 32, math.MinInt, math.MaxInt} {
		list[fmt.Sprint("a mesh of ", bad)] = steadyField(3, 4, bad, 4, 5)
	}
	list["no hours"], list["an empty list of hours"] = steadyField(3, 4, 600), impl.Field{Wide: 3, High: 4, Mesh: 600, Hours: [][]complex64{}}
	for _, n := range []int{impl.MaxHours + 1, impl.MaxHours + 2, 1000} {
		list[fmt.Sprint(n, " hours")] = steadyField(3, 4, 600, alike(4, n)...)
	}
}

// brokenHours does the same with the winds of an hour.
func brokenHours(list map[string]impl.Field) {
	for _, hours := range []int{1, 2, 7, impl.MaxHours} {
		for _, h := range []int{0, hours / 2, hours - 1} {
			for _, n := range []int{0, 1, 7, 11, 13, 16, 24, 144} {
				f := steadyField(3, 4, 600, alike(4, hours)...)
				f.Hours[h] = alike(4, n)
				list[fmt.Sprint(n, " winds in the hour ", h, " of ", hours)] = f
			}
		}
	}
	few := steadyField(3, 4, 600, 4, 4, 4)
	few.Hours[0], few.Hours[1] = alike(4, 11), alike(4, 13)
	list["a wind too few, and one too many"] = few
	for i, bad := range brokenWinds() {
		for _, hours := range []int{1, 3, impl.MaxHours} {
			for _, where := range [][2]int{{0, 0}, {hours - 1, 11}, {0, 11}, {hours - 1, 0}, {hours / 2, i % 12}} {
				f := steadyField(4, 3, 600, alike(4, hours)...)
				f.Hours[where[0]][where[1]] = bad
				list[fmt.Sprint(bad, " in the hour ", where[0], " of ", hours, " at ", where[1])] = f
			}
		}
	}
	f := steadyField(impl.MaxGrid, impl.MaxGrid, 600, 4, 4)
	f.Hours[1][143] = complex(0, next(impl.MaxSpeed))
	list["too fast at the last node of many"] = f
}

// brokenFields returns fields that are not valid, by what they lack.
func brokenFields() map[string]impl.Field {
	list := map[string]impl.Field{"nothing": {}}
	brokenGrids(list)
	brokenMeshes(list)
	brokenHours(list)
	return list
}

// fieldFine follows the rule for FieldOk.
func fieldFine(f impl.Field) bool {
	if f.Wide < 2 || f.Wide > 12 || f.High < 2 || f.High > 12 || f.Mesh < 10 || f.Mesh > 100000 || len(f.Hours) < 1 || len(f.Hours) > 24 {
		return false
	}
	for _, winds := range f.Hours {
		if len(winds) != f.Wide*f.High {
			return false
		}
		for _, w := range winds {
			low, high := min(real(w), imag(w)), max(real(w), imag(w))
			if !(low >= -100 && high <= 100) {
				return false
			}
		}
	}
	return true
}

// checkField returns FieldOk, after a look that it follows its rule, that nothing is written into the field,
// and that nothing behind its lists counts.
func checkField(t *testing.T, name string, f impl.Field) bool {
	t.Helper()
	field := holdField(f)
	got, again, alone := impl.FieldOk(field.given), impl.FieldOk(field.given), impl.FieldOk(clippedField(f))
	field.check(t)
	if want := fieldFine(f); got != want || again != want || alone != want {
		t.Fatalf("FieldOk of %s, %v: %v, then %v, and without room %v, want %v", name, f, got, again, alone, want)
	}
	return got
}

func TestLimitsOfFields(t *testing.T) {
	if impl.MaxGrid != 12 || impl.MaxHours != 24 || impl.MaxWay != 200 || impl.MinMesh != 10 || impl.MaxMesh != 100000 {
		t.Error("limits:", impl.MaxGrid, impl.MaxHours, impl.MaxWay, impl.MinMesh, impl.MaxMesh)
	}
}

func TestFieldOkAtItsEdges(t *testing.T) {
	for i, f := range goodFields() {
		if !checkField(t, fmt.Sprint("the field ", i), f) {
			t.Errorf("not valid: %v", f)
		}
	}
	for wide := -1; wide <= 14; wide++ {
		for high := -1; high <= 14; high++ {
			f := impl.Field{Wide: wide, High: high, Mesh: 600, Hours: [][]complex64{alike(4, max(0, wide*high))}}
			if got, want := checkField(t, "a grid", f), min(wide, high) >= 2 && max(wide, high) <= 12; got != want {
				t.Errorf("%d by %d: %v", wide, high, got)
			}
		}
	}
	for n := range 30 {
		if got, want := checkField(t, "some hours", steadyField(2, 3, 600, alike(4, n)...)), 1 <= n && n <= 24; got != want {
			t.Errorf("%d hours: %v", n, got)
		}
	}
	for name, f := range brokenFields() {
		if checkField(t, name, f) {
			t.Errorf("valid: %s", name)
		}
	}
}

// nodePlace follows the rule for NodeAt: row by row, each from its first column on.
func nodePlace(f impl.Field, n int) complex128 {
	row := 0
	for n >= f.Wide {
		row, n = row+1, n-f.Wide
	}
	return complex(float64(row)*float64(f.Mesh), float64(n)*float64(f.Mesh))
}

// checkNode returns NodeAt, after the looks of checkField.
func checkNode(t *testing.T, f impl.Field, n int) (complex128, bool) {
	t.Helper()
	field := holdField(f)
	got, ok := impl.NodeAt(field.given, n)
	again, fine := impl.NodeAt(field.given, n)
	field.check(t)
	want, told := complex128(0), fieldFine(f) && n >= 0 && n < f.Wide*f.High
	if told {
		want = nodePlace(f, n)
	}
	if !sameComplex(got, want) || ok != told || !sameComplex(again, want) || fine != told {
		t.Fatalf("NodeAt %d of %v: %v %v, and then %v %v, want %v %v", n, f, got, ok, again, fine, want, told)
	}
	return got, ok
}

func TestNodeAtOfSmallNumbers(t *testing.T) {
	wide, high, square, large := steadyField(4, 2, 600, 5), steadyField(2, 5, 10, 5), steadyField(3, 3, 7, 5), steadyField(12, 12, impl.MaxMesh, 5)
	square.Mesh = 25
	for _, c := range []struct {
		f    impl.Field
		n    int
		want complex128
	}{
		{wide, 0, 0}, {wide, 1, 600i}, {wide, 3, 1800i}, {wide, 4, 600}, {wide, 5, 600 + 600i}, {wide, 7, 600 + 1800i}, {high, 0, 0}, {high, 1, 10i}, {high, 2, 10}, {high, 3, 10 + 10i}, {high, 8, 40}, {high, 9, 40 + 10i},
		{square, 2, 50i}, {square, 3, 25}, {square, 4, 25 + 25i}, {square, 6, 50}, {square, 8, 50 + 50i}, {large, 0, 0}, {large, 11, 1100000i}, {large, 12, 100000}, {large, 132, 1100000}, {large, 143, 1100000 + 1100000i},
	} {
		if got, ok := checkNode(t, c.f, c.n); !ok || got != c.want {
			t.Errorf("NodeAt %d of %d by %d: %v %v, want %v", c.n, c.f.Wide, c.f.High, got, ok, c.want)
		}
	}
}

// Of each node of a field, which lies nearest to itself, and of what is no node.
func TestTheNodeNearestToANodeIsThatNode(t *testing.T) {
	for _, f := range goodFields() {
		n := f.Wide * f.High
		for k := range n {
			at, ok := checkNode(t, f, k)
			if near := impl.NearNode(f, at); !ok || near != k {
				t.Fatalf("node %d of %v: %v %v, and near to it %d", k, f, at, ok, near)
			}
		}
		for _, k := range noIndexes(n) {
			if at, ok := checkNode(t, f, k); ok || at != 0 {
				t.Errorf("node %d of %d by %d: %v %v", k, f.Wide, f.High, at, ok)
			}
		}
	}
	for name, f := range brokenFields() {
		for _, n := range []int{0, 1, 5, 11, 15, -1, 144, math.MinInt, math.MaxInt} {
			if at, ok := checkNode(t, f, n); ok || at != 0 {
				t.Errorf("%s, node %d: %v %v", name, n, at, ok)
			}
		}
	}
}

// nearOf follows the rule for NearNode, from the last node to the first.
func nearOf(f impl.Field, pos complex128) int {
	if !fieldFine(f) || !(math.Abs(real(pos)) <= 1e8 && math.Abs(imag(pos)) <= 1e8) {
		return -1
	}
	best := f.Wide*f.High - 1
	for n := best; n >= 0; n-- {
		if squareTo(nodePlace(f, n), pos) <= squareTo(nodePlace(f, best), pos) {
			best = n
		}
	}
	return best
}

// checkNear returns NearNode, after the looks of checkField.
func checkNear(t *testing.T, f impl.Field, pos complex128) int {
	t.Helper()
	field := holdField(f)
	got, again := impl.NearNode(field.given, pos), impl.NearNode(field.given, pos)
	field.check(t)
	if want := nearOf(f, pos); got != want || again != want {
		t.Fatalf("NearNode of %d by %d, %d apart, and %v: %d, and then %d, want %d", f.Wide, f.High, f.Mesh, pos, got, again, want)
	}
	return got
}

func TestNearNodeOfSmallNumbers(t *testing.T) {
	f := steadyField(3, 4, 100, 5)
	inf, nan := math.Inf(1), math.NaN()
	for _, c := range []struct {
		pos  complex128
		want int
	}{
		// At a node and about one.
		{0, 0}, {100i, 1}, {200i, 2}, {100, 3}, {100 + 100i, 4}, {300 + 200i, 11}, {49 + 49i, 0}, {51 + 49i, 3}, {49 + 51i, 1}, {51 + 51i, 4}, {149 + 60i, 4}, {complex(negativeZero, negativeZero), 0},
		// In the middle of two, and beside it.
		{50i, 0}, {150i, 1}, {50, 0}, {250, 6}, {100 + 50i, 3}, {150 + 200i, 5}, {complex(0, above(50)), 1}, {complex(0, below(50)), 0}, {complex(above(50), 0), 3}, {complex(below(150), 100), 4}, {20 + 50i, 0}, {50 + 20i, 0}, {80 + 50i, 3}, {50 + 80i, 1},
		// In the middle of four.
		{50 + 50i, 0}, {50 + 150i, 1}, {150 + 50i, 3}, {250 + 150i, 7}, {complex(above(50), 50), 3}, {complex(50, above(50)), 1}, {complex(above(50), above(50)), 4}, {complex(below(50), above(50)), 1},
		// Outside of the grid.
		{-70 - 30i, 0}, {-1e8 - 1e8i, 0}, {-40 + 110i, 1}, {-40 + 150i, 1}, {-1 + 900i, 2}, {160 + 201i, 8}, {340 + 260i, 11}, {5000 - 5000i, 9}, {1e6 + 130i, 10}, {50 - 20i, 0}, {150 + 900i, 5}, {1e8i, 2}, {1e8, 9}, {900 + 100i, 10},
		// So far away that the squares are rounded to one and the same.
		{1e8 + 1e8i, 11}, {1e8 - 1e8i, 9}, {complex(-1e8, 50.001), 0}, {complex(1e8, 50.001), 9}, {complex(50.001, -1e8), 0}, {complex(50.001, 1e8), 2}, {complex(-1e8, 50.1), 1}, {complex(50.1, 1e8), 5},
		{complex(above(1e8), 0), -1}, {complex(0, below(-1e8)), -1}, {complex(nan, 0), -1}, {complex(100, nan), -1}, {complex(nan, nan), -1}, {complex(inf, 0), -1}, {complex(0, -inf), -1}, {complex(-inf, inf), -1}, {complex(inf, nan), -1},
	} {
		if got := checkNear(t, f, c.pos); got != c.want {
			t.Errorf("near to %v: %d, want %d", c.pos, got, c.want)
		}
	}
}

// About the middles between nodes, inside of the grid and far off.
func TestNearNodeFollowsItsRule(t *testing.T) {
	d, seen, exact := dice(121), map[int]int{}, 0
	for i, f := range goodFields() {
		mesh := float64(f.Mesh)
		for range 2 + f.Wide*f.High/30 {
			a, b := mesh*float64(d.upTo(2*f.High+3)-2)/2, mesh*float64(d.upTo(2*f.Wide+3)-2)/2
			for _, pos := range []complex128{complex(a, b), complex(above(a), b), complex(a, below(b)), complex(below(a), above(b)), complex(a+d.within(mesh), b+d.within(mesh)), complex(d.within(1e8), b), complex(a, d.within(1e8)), complex(d.within(1e8), d.within(1e8))} {
				seen[checkNear(t, f, pos)]++
			}
			// A hair beside the middle the one square is less than the other, but their sums with a third one
			// may be rounded to one and the same.
			x := mesh * d.within(3)
			if checkNear(t, f, complex(x, below(mesh/2))) == checkNear(t, f, complex(x, above(mesh/2))) {
				exact++
			}
		}
		broken := brokenVectors()
		if pos := broken[i%len(broken)]; checkNear(t, f, pos) != -1 {
			t.Errorf("something is near to %v", pos)
		}
	}
	if len(seen) < 120 || exact < 100 {
		t.Error("only few nodes are near, or only few show that sums are rounded:", len(seen), exact)
	}
}

func TestNearNodeOfFieldsThatAreNotValid(t *testing.T) {
	for name, f := range brokenFields() {
		for _, pos := range []complex128{0, 600 + 1200i, -1e8, complex(0, math.NaN())} {
			if got := checkNear(t, f, pos); got != -1 {
				t.Errorf("%s, near to %v: %d", name, pos, got)
			}
		}
	}
}

// windOf follows the rule for WindAt.
func windOf(f impl.Field, n, time int) (complex64, bool) {
	if !fieldFine(f) || n < 0 || n >= f.Wide*f.High || time < 0 || time > 10000000 {
		return 0, false
	}
	last := 0
	for h := range f.Hours {
		if h*3600 <= time {
			last = h
		}
	}
	return f.Hours[last][n], true
}

// checkWind returns WindAt, after the looks of checkField.
func checkWind(t *testing.T, f impl.Field, n, time int) (complex64, bool) {
	t.Helper()
	field := holdField(f)
	got, ok := impl.WindAt(field.given, n, time)
	again, fine := impl.WindAt(field.given, n, time)
	field.check(t)
	if want, told := windOf(f, n, time); !sameWind(got, want) || ok != told || !sameWind(again, want) || fine != told {
		t.Fatalf("WindAt %d, %d of %v: %v %v, and then %v %v, want %v %v", n, time, f, got, ok, again, fine, want, told)
	}
	return got, ok
}

// hourTimes returns times about those at which hours begin and at both ends.
func hourTimes() []int {
	list := []int{0, 1, 59, 1800, impl.MaxTime - 1, impl.MaxTime}
	for h := 1; h <= impl.MaxHours+2; h++ {
		list = append(list, h*impl.Hour-1, h*impl.Hour, h*impl.Hour+1)
	}
	return list
}

func TestWindAtEachHour(t *testing.T) {
	for hours := 1; hours <= impl.MaxHours; hours++ {
		f := steadyField(2, 3, 600, alike(0, hours)...)
		for h := range f.Hours {
			for n := range f.Hours[h] {
				f.Hours[h][n] = complex(float32(h), float32(n))
			}
		}
		for _, time := range hourTimes() {
			for n := range 6 {
				want := complex(float32(min(time/3600, hours-1)), float32(n))
				if got, ok := checkWind(t, f, n, time); !ok || got != want {
					t.Errorf("node %d at %d of %d hours: %v %v, want %v", n, time, hours, got, ok, want)
				}
			}
			for _, n := range noIndexes(6) {
				if got, ok := checkWind(t, f, n, time); ok || got != 0 {
					t.Errorf("node %d at %d: %v %v", n, time, got, ok)
				}
			}
		}
		for _, time := range brokenTimes() {
			for _, n := range []int{0, 5, 6, -1} {
				if got, ok := checkWind(t, f, n, time); ok || got != 0 {
					t.Errorf("node %d at %d: %v %v", n, time, got, ok)
				}
			}
		}
	}
}

func TestWindAtFollowsItsRule(t *testing.T) {
	d, times := dice(122), hourTimes()
	for _, f := range goodFields() {
		n := f.Wide * f.High
		for range 10 {
			checkWind(t, f, d.upTo(n), times[d.upTo(len(times))])
			checkWind(t, f, []int{0, n - 1, n, -1}[d.upTo(4)], d.upTo(impl.MaxHours*impl.Hour))
		}
	}
	for name, f := range brokenFields() {
		for _, n := range []int{0, 3, 11, -1, 144} {
			for _, time := range []int{0, 3600, impl.MaxTime, -1} {
				if got, ok := checkWind(t, f, n, time); ok || got != 0 {
					t.Errorf("%s, node %d at %d: %v %v", name, n, time, got, ok)
				}
			}
		}
	}
}
