package tests

import (
	"slices"
	"testing"

	"loop.example/g03321/impl"
)

// reached has for each node the time at which it is reached and the node from which it is, or -1, and how
// often a node was reached again: at the same time, and at a lesser one.
type reached struct {
	times, from  []int
	same, lesser int
}

// breach is a way to break the rule for Fronts.
type breach int

const (
	kept breach = iota
	lastOfTheLeast
	againAtTheSameTime
	neverAgain
	windsOfTheStart
)

// reachedBy follows the rule for Fronts, but for a breach; nothing is reached where it returns nil.
func reachedBy(f impl.Field, p impl.Polar, start, time int, but breach) reached {
	n := f.Wide * f.High
	if !fieldFine(f) || !impl.PolarOk(p) || start < 0 || start >= n || time < 0 || time > 10000000 {
		return reached{}
	}
	r, done := reached{times: repeat(-1, n), from: repeat(-1, n)}, make([]bool, n)
	r.times[start] = time
	for {
		a := -1
		for b := range n {
			if r.times[b] != -1 && !done[b] && (a == -1 || r.times[b] < r.times[a] || but == lastOfTheLeast && r.times[b] == r.times[a]) {
				a = b
			}
		}
		if a == -1 {
			return r
		}
		done[a] = true
		for b := range n {
			at := r.times[a]
			if but == windsOfTheStart {
				at = time
			}
			seconds, ok := impl.EdgeTime(f, p, a, b, at)
			sum := r.times[a] + seconds
			if !ok || sum > 10000000 {
				continue
			}
			if r.times[b] == sum {
				r.same++
			}
			if r.times[b] > sum {
				r.lesser++
			}
			if r.times[b] == -1 || r.times[b] > sum && but != neverAgain || r.times[b] == sum && but == againAtTheSameTime {
				r.times[b], r.from[b] = sum, a
			}
		}
	}
}

// wayIn returns the way to a node that is reached, and none to one that is not.
func wayIn(r reached, start, goal int) []int {
	if goal < 0 || goal >= len(r.times) || r.times[goal] == -1 {
		return nil
	}
	if goal == start {
		return []int{start}
	}
	return append(wayIn(r, start, r.from[goal]), goal)
}

// checkFronts returns what is reached, after a look that Fronts follows its rule, that its result is new,
// and that nothing is written into the arguments.
func checkFronts(t *testing.T, f impl.Field, p impl.Polar, start, time int) reached {
	t.Helper()
	field, polar := holdField(f), holdPolar(p)
	ask := func() []int { return impl.Fronts(field.given, polar.given, start, time) }
	checkNew(t, ask)
	got := ask()
	field.check(t)
	polar.check(t)
	want := reachedBy(f, p, start, time, kept)
	if !slices.Equal(got, want.times) {
		t.Fatalf("Fronts(%v, %v, %d, %d): %v, want %v", f, p, start, time, got, want.times)
	}
	return want
}

// checkWay returns WayTo, likewise, where it is known what is reached. The way is sailed again: it arrives
// when the node is reached.
func checkWay(t *testing.T, r reached, f impl.Field, p impl.Polar, start, goal, time int) []int {
	t.Helper()
	field, polar := holdField(f), holdPolar(p)
	ask := func() []int { return impl.WayTo(field.given, polar.given, start, goal, time) }
	got, want := ask(), wayIn(r, start, goal)
	field.check(t)
	polar.check(t)
	if !slices.Equal(got, want) {
		t.Fatalf("WayTo(%v, %v, %d, %d, %d): %v, want %v", f, p, start, goal, time, got, want)
	}
	if len(got) == 0 {
		return got
	}
	if end, ok := impl.SailWay(f, p, got, time); !ok || end != r.times[goal] || got[0] != start || got[len(got)-1] != goal {
		t.Fatalf("in %v with %v, %v leads from %d at %d to %d at %d %v, want %d", f, p, got, start, time, goal, end, ok, r.times[goal])
	}
	return got
}

// checkWays checks Fronts, and the ways to all nodes.
func checkWays(t *testing.T, f impl.Field, p impl.Polar, start, time int) reached {
	t.Helper()
	r := checkFronts(t, f, p, start, time)
	for goal := range r.times {
		checkWay(t, r, f, p, start, goal, time)
	}
	return r
}

func TestFrontsAndWaysInASteadyWind(t *testing.T) {
	r := checkWays(t, steadyField(3, 3, 600, -4), racer(), 4, 50)
	if want := []int{239, 223, 239, 150, 50, 150, 253, 246, 253}; !slices.Equal(r.times, want) {
		t.Errorf("from the middle: %v, want %v", r.times, want)
	}
	r = checkWays(t, steadyField(4, 2, 600, -4), racer(), 0, 0)
	if want := []int{0, 100, 200, 300, 196, 203, 303, 403}; !slices.Equal(r.times, want) {
		t.Errorf("from a corner: %v, want %v", r.times, want)
	}
	r = checkWays(t, steadyField(2, 4, 600, -4i), racer(), 7, 1000)
	if want := []int{1389, 1300, 1289, 1200, 1189, 1100, 1173, 1000}; !slices.Equal(r.times, want) {
		t.Errorf("from the last node: %v, want %v", r.times, want)
	}
	for _, start := range []int{0, 5, 11, 24, 66, 119, 132, 143} {
		f := steadyField(12, 12, 5000, windFrom(2*start, 6))
		r := checkFronts(t, f, cruiser(), start, 0)
		for _, goal := range []int{0, 11, 66, 132, 143} {
			checkWay(t, r, f, cruiser(), start, goal, 0)
		}
		if slices.Min(r.times) != 0 || slices.Index(r.times, 0) != start {
			t.Errorf("from %d on: %v", start, r.times)
		}
	}
}

// A node is reached from one that is reached later, but from which it is not far.
func TestFrontsReachANodeAgain(t *testing.T) {
	f := steadyField(2, 2, 600, -4)
	f.Hours[0][0] = complex(-0.4, 0)
	r := checkWays(t, f, racer(), 0, 0)
	if want := []int{0, 1000, 1203, 1196}; !slices.Equal(r.times, want) || r.lesser != 2 {
		t.Errorf("%v, want %v; at a lesser time %d", r.times, want, r.lesser)
	}
	if way := impl.WayTo(f, racer(), 0, 2, 0); !slices.Equal(way, []int{0, 1, 2}) {
		t.Error("the way:", way)
	}
}

// Of nodes that are reached at the same time the first one counts, and a node that is reached again at the
// same time stays as it was: all ways lead through the west.
func TestFrontsAtTheSameTime(t *testing.T) {
	f := steadyField(3, 3, 600, -10)
	r := checkWays(t, f, skewer(), 1, 0)
	if want := []int{120, 0, 120, 170, 290, 170, 460, 340, 460}; !slices.Equal(r.times, want) || r.same < 3 {
		t.Errorf("%v, want %v; at the same time %d", r.times, want, r.same)
	}
	for goal, want := range map[int][]int{4: {1, 0, 4}, 7: {1, 3, 7}, 6: {1, 0, 4, 6}, 8: {1, 0, 4, 8}, 1: {1}, 0: {1, 0}, 3: {1, 3}, 5: {1, 5}} {
		if way := impl.WayTo(f, skewer(), 1, goal, 0); !slices.Equal(way, want) {
			t.Errorf("to %d: %v, want %v", goal, way, want)
		}
	}
	r = checkWays(t, f, skewer(), 7, 0)
	for goal, want := range map[int][]int{4: {7, 6, 4}, 1: {7, 3, 1}, 0: {7, 6, 4, 0}, 2: {7, 6, 4, 2}} {
		if way := impl.WayTo(f, skewer(), 7, goal, 0); !slices.Equal(way, want) {
			t.Errorf("back to %d: %v, want %v", goal, way, want)
		}
	}
}

// With the winds of the hour in which a node is left; to wait for the next hour is not asked for, though a
// way that takes longer to a node may then arrive ahead of the fronts.
func TestFrontsFromHourToHour(t *testing.T) {
	f := steadyField(4, 2, 600, -4, -4)
	for n := 4; n < 8; n++ {
		f.Hours[0][n], f.Hours[1][n] = 0, 0
	}
	f.Hours[0][2] = -0.0625
	for _, c := range []struct {
		time int
		want []int
	}{{3399, []int{3499, 3399, 3499, 9899}}, {3499, []int{3599, 3499, 3599, 9999}}, {3500, []int{3600, 3500, 3600, 3700}}, {4000, []int{4100, 4000, 4100, 4200}}, {impl.MaxTime - 200, []int{impl.MaxTime - 100, impl.MaxTime - 200, impl.MaxTime - 100, impl.MaxTime}}} {
		if r := checkWays(t, f, racer(), 1, c.time); !slices.Equal(r.times[:4], c.want) {
			t.Errorf("from %d on: %v, want %v", c.time, r.times, c.want)
		}
	}
	if end, ok := impl.SailWay(f, racer(), []int{1, 0, 1, 2, 3}, 3399); !ok || end != 3799 {
		t.Error("by a node more:", end, ok)
	}
	// The last hour stays for good.
	for hours := 1; hours <= impl.MaxHours; hours++ {
		f := steadyField(3, 2, 600, append(alike(0, hours-1), -4)...)
		begin := (hours - 1) * impl.Hour
		for _, time := range []int{0, begin - 1, begin, begin + 1, hours * impl.Hour, impl.MaxTime - 5000} {
			want := []int{time, time + 100, time + 200}
			if time < begin {
				want = []int{time, -1, -1}
			}
			if time >= 0 && !slices.Equal(checkWays(t, f, racer(), 0, time).times[:3], want) {
				t.Errorf("%d hours, from %d on: no %v", hours, time, want)
			}
		}
	}
}

// Nodes from which no edge can be sailed: the start, all but the start, and a wall of them; also where it
// is the polar with which none can.
func TestFrontsThatEnd(t *testing.T) {
	calm := steadyField(4, 3, 600, -4)
	calm.Hours[0][5] = 0
	for start := range 12 {
		for _, c := range []struct {
			f impl.Field
			p impl.Polar
		}{{calm, racer()}, {steadyField(4, 3, 600, 0), racer()}, {steadyField(4, 3, 600, -4), oneRow([]int{179}, 0)}, {steadyField(4, 3, 600, -4), oneRow([]int{90, 91, 180}, 0, 5, 5)}, {steadyField(4, 3, impl.MaxMesh, -4), between60And120(1e-3)}} {
			r := checkFronts(t, c.f, c.p, start, 300)
			alone := repeat(-1, 12)
			alone[start] = 300
			if all := c.f.Hours[0][0] == -4 && c.f.Hours[0][5] == 0 && start != 5; !all && !slices.Equal(r.times, alone) || all && slices.Min(r.times) != 300 {
				t.Errorf("from %d on with %v in %v: %v", start, c.p, c.f.Hours, r.times)
			}
			for goal := range 12 {
				checkWay(t, r, c.f, c.p, start, goal, 300)
			}
		}
	}
	wall := steadyField(3, 5, 600, -4)
	copy(wall.Hours[0][6:], make([]complex64, 3))
	if r := checkWays(t, wall, racer(), 1, 0); slices.Min(r.times[:9]) != 0 || slices.Max(r.times[9:]) != -1 {
		t.Error("beyond a wall:", r.times)
	}
	if r := checkWays(t, wall, racer(), 7, 0); slices.Max(r.times) != 0 || slices.Index(r.times, 0) != 7 {
		t.Error("from a wall:", r.times)
	}
}

// A time that ends at MaxTime counts, and one that ends a second beyond it does not.
func TestFrontsAtTheEndOfTime(t *testing.T) {
	const last = impl.MaxTime
	f := steadyField(3, 2, 600, -4)
	for _, c := range []struct {
		time int
		want []int
	}{
		{last, []int{last, -1, -1, -1, -1, -1}}, {last - 99, []int{last - 99, -1, -1, -1, -1, -1}}, {last - 100, []int{last - 100, last, -1, -1, -1, -1}}, {last - 195, []int{last - 195, last - 95, -1, -1, -1, -1}}, {last - 196, []int{last - 196, last - 96, -1, last, -1, -1}}, {last - 200, []int{last - 200, last - 100, last, last - 4, -1, -1}}, {last - 203, []int{last - 203, last - 103, last - 3, last - 7, last, -1}}, {last - 302, []int{last - 302, last - 202, last - 102, last - 106, last - 99, -1}}, {last - 303, []int{last - 303, last - 203, last - 103, last - 107, last - 100, last}}, {last - 304, []int{last - 304, last - 204, last - 104, last - 108, last - 101, last - 1}},
	} {
		if r := checkWays(t, f, racer(), 0, c.time); !slices.Equal(r.times, c.want) {
			t.Errorf("from %d on: %v, want %v", c.time, r.times, c.want)
		}
	}
}

// waysFrom calls see with each way from a node on that has no node twice, and when it arrives, where each
// edge takes the given seconds, or is none.
func waysFrom(edges [][]int, way []int, time int, see func(way []int, time int)) {
	see(way, time)
	for b, seconds := range edges[way[len(way)-1]] {
		if seconds > 0 && !slices.Contains(way, b) {
			waysFrom(edges, append(way, b), time+seconds, see)
		}
	}
}

// edgesOf returns the seconds that each edge of a field of one hour takes, and 0 where there is none.
func edgesOf(f impl.Field, p impl.Polar) [][]int {
	n := f.Wide * f.High
	edges := [][]int{}
	for a := range n {
		row := repeat(0, n)
		for b := range n {
			row[b], _ = impl.EdgeTime(f, p, a, b, 0)
		}
		edges = append(edges, row)
	}
	return edges
}

// In a field of one hour, against every way that has no node twice: none arrives ahead of the front, and
// there is one exactly if the node is reached.
func TestNoWayIsAheadOfItsFront(t *testing.T) {
	d, grids := dice(125), [][2]int{{2, 2}, {2, 3}, {3, 2}, {3, 3}, {2, 4}}
	behind, none := 0, 0
	for i := range 60 {
		f, p, time := wildField(&d, grids[i%5][0], grids[i%5][1], 1), []impl.Polar{cruiser(), racer(), skewer()}[d.upTo(3)], d.upTo(5000)
		n := f.Wide * f.High
		start := d.upTo(n)
		r, edges := checkWays(t, f, p, start, time), edgesOf(f, p)
		least := repeat(-1, n)
		waysFrom(edges, []int{start}, time, func(way []int, end int) {
			goal := way[len(way)-1]
			if end > impl.MaxTime {
				return
			}
			if least[goal] == -1 || end < least[goal] {
				least[goal] = end
			}
			if end > r.times[goal] {
				behind++
			}
			if d.upTo(400) > 0 && n > 4 {
				return
			}
			if sailed, ok := impl.SailWay(f, p, way, time); !ok || sailed != end || sailed < r.times[goal] {
				t.Fatalf("%v from %d on arrives at %d %v, want %d, the front at %d", way, time, sailed, ok, end, r.times[goal])
			}
		})
		if !slices.Equal(r.times, least) {
			t.Fatalf("in %v with %v from %d at %d: %v, but ways lead there at %v", f, p, start, time, r.times, least)
		}
		none += len(slices.DeleteFunc(least, func(time int) bool { return time >= 0 }))
	}
	if behind < 10000 || none < 10 {
		t.Error("only few ways are behind their fronts, or few nodes are not reached:", behind, none)
	}
}

// In a field of one hour, against all lists of few nodes, also such as are no way.
func TestNoListOfNodesIsAheadOfItsFront(t *testing.T) {
	d, sailed := dice(126), 0
	for range 6 {
		f, time := wildField(&d, 2, 2, 1), d.upTo(5000)
		for start := range 4 {
			times := impl.Fronts(f, racer(), start, time)
			for n := range 6 {
				plansOf(n, 0, 3, func(rest []int) {
					way := append([]int{start}, rest...)
					end, ok := impl.SailWay(f, racer(), way, time)
					goal := way[len(way)-1]
					if ok && (times[goal] == -1 || end < times[goal]) {
						t.Fatalf("in %v %v leads from %d to %d, but the front is there at %d", f, way, time, end, times[goal])
					}
					if ok {
						sailed++
					}
				})
			}
		}
	}
	if sailed < 3000 {
		t.Error("only few lists are sailed:", sailed)
	}
}

// In large fields of one hour, against ways that wander.
func TestNoLongWayIsAheadOfItsFront(t *testing.T) {
	d, sailed := dice(127), 0
	for range 12 {
		f := wildField(&d, 6+d.upTo(7), 6+d.upTo(7), 1)
		n := f.Wide * f.High
		start := d.upTo(n)
		times, edges := impl.Fronts(f, cruiser(), start, 100), edgesOf(f, cruiser())
		for range 100 {
			way, target := []int{start}, d.upTo(n)
			for a := start; a != target && len(way) < impl.MaxWay; a = way[len(way)-1] {
				row, column := target/f.Wide-a/f.Wide+d.upTo(3)-1, target%f.Wide-a%f.Wide+d.upTo(3)-1
				b := a + max(-1, min(row, 1))*f.Wide + max(-1, min(column, 1))
				if !beside(f, a, b) || edges[a][b] == 0 {
					break
				}
				way = append(way, b)
			}
			end, ok := impl.SailWay(f, cruiser(), way, 100)
			if goal := way[len(way)-1]; ok && (times[goal] == -1 || end < times[goal]) {
				t.Fatalf("%v leads to %d, but the front is there at %d", way, end, times[goal])
			}
			if ok && len(way) > 4 {
				sailed++
			}
		}
	}
	if sailed < 200 {
		t.Error("only few ways are sailed:", sailed)
	}
}

// Fields of all kinds, most of them of several hours. What shows each part of the rule is counted.
func TestFrontsFollowTheirRule(t *testing.T) {
	d, shown, same, lesser, none := dice(128), map[breach]int{}, 0, 0, 0
	for i := range 250 {
		f, p := wildField(&d, 2+d.upTo(3), 2+d.upTo(4), 1+d.upTo(5)), []impl.Polar{cruiser(), racer(), skewer(), peaked(40, 140, 5, 4, 1), wildPolar(&d, 3, 6)}[i%5]
		if i%25 == 0 {
			f = wildField(&d, impl.MaxGrid, 3+d.upTo(10), 1+d.upTo(impl.MaxHours))
		}
		n := f.Wide * f.High
		start, time := d.upTo(n), d.upTo(3*impl.Hour)
		r := checkFronts(t, f, p, start, time)
		for goal := range n {
			if n <= 20 || goal%37 == 0 {
				checkWay(t, r, f, p, start, goal, time)
			}
		}
		same, lesser = same+r.same, lesser+r.lesser
		if slices.Contains(r.times, -1) {
			none++
		}
		for but := range windsOfTheStart + 1 {
			if n > 20 {
				break
			}
			if other := reachedBy(f, p, start, time, but); !slices.Equal(other.times, r.times) || !slices.Equal(other.from, r.from) {
				shown[but]++
			}
		}
	}
	for but := lastOfTheLeast; but <= windsOfTheStart; but++ {
		if shown[but] < 8 {
			t.Error("only few fields show the breach", but, shown)
		}
	}
	if shown[kept] > 0 || same < 100 || lesser < 200 || none < 15 {
		t.Error("only few nodes are reached again, or fields have nodes that are not:", shown, same, lesser, none)
	}
}

func TestWayToEachGoal(t *testing.T) {
	f := steadyField(4, 3, 600, -4)
	f.Hours[0][9] = 0
	r := checkFronts(t, f, racer(), 5, 20)
	for goal, want := range map[int][]int{5: {5}, 0: {5, 0}, 1: {5, 1}, 2: {5, 2}, 4: {5, 4}, 6: {5, 6}, 8: {5, 8}, 9: {5, 9}, 10: {5, 10}, 3: {5, 6, 3}, 7: {5, 6, 7}, 11: {5, 6, 11}} {
		if got := checkWay(t, r, f, racer(), 5, goal, 20); !slices.Equal(got, want) {
			t.Errorf("to %d: %v, want %v", goal, got, want)
		}
	}
	for _, goal := range noIndexes(12) {
		for _, start := range []int{5, 9, 12, -1, goal} {
			if got := impl.WayTo(f, racer(), start, goal, 20); len(got) != 0 {
				t.Errorf("from %d to %d: %v", start, goal, got)
			}
		}
	}
	r = checkFronts(t, f, racer(), 9, 20)
	for goal := range 12 {
		want := []int{9}
		if goal != 9 {
			want = nil
		}
		if got := checkWay(t, r, f, racer(), 9, goal, 20); !slices.Equal(got, want) {
			t.Errorf("from the calm to %d: %v", goal, got)
		}
	}
}

func TestWayToReturnsNewMemory(t *testing.T) {
	f := steadyField(5, 4, 600, -4, 5i)
	field, polar := holdField(f), holdPolar(racer())
	for goal := range 20 {
		checkNew(t, func() []int { return impl.WayTo(field.given, polar.given, 3, goal, 3000) })
		checkNew(t, func() []int { return impl.Fronts(field.given, polar.given, goal, 3000) })
	}
	field.check(t)
	polar.check(t)
}

// Of a field, a polar, a start or a time that is not valid no front goes out, and no way leads anywhere,
// be it from the goal itself.
func TestFrontsOfWhatIsNotValid(t *testing.T) {
	f := steadyField(4, 3, 600, -4, 5i)
	refuse := func(name string, f impl.Field, p impl.Polar, start, time int) {
		t.Helper()
		if r := checkFronts(t, f, p, start, time); len(r.times) != 0 {
			t.Errorf("%s: %v", name, r.times)
		}
		for _, goal := range []int{start, 0, 1, -1} {
			if way := checkWay(t, reached{}, f, p, start, goal, time); len(way) != 0 {
				t.Errorf("%s, to %d: %v", name, goal, way)
			}
		}
	}
	for name, broken := range brokenFields() {
		for _, start := range []int{0, 1, 11, -1} {
			refuse(name, broken, racer(), start, 0)
		}
	}
	for name, p := range brokenPolars() {
		for _, start := range []int{0, 5, 11} {
			refuse(name, f, p, start, 4000)
		}
	}
	for _, start := range noIndexes(12) {
		refuse("no start", f, racer(), start, 0)
	}
	for _, time := range brokenTimes() {
		refuse("a time", f, racer(), 0, time)
		refuse("a time", steadyField(4, 3, 600, 0), racer(), 7, time)
	}
}
