package tests

import (
	"math"
	"math/big"
	"testing"

	"loop.example/g03321/impl"
)

// passOf tells what PassRay must return for valid places, by the point in which the step meets the
// line through the origin and the mark: so far along it from the origin, and no nearer than the mark.
func passOf(origin, mark, a, b impl.Place) int {
	l := impl.Line{Port: origin, Starboard: mark}
	from, to := heightAbove(l, a), heightAbove(l, b)
	if (from.Sign() > 0) == (to.Sign() > 0) {
		return 0
	}
	// It comes down by all; the point lies where it has come down by from.
	all := new(big.Int).Sub(from, to)
	meet := new(big.Rat).SetFrac(from, all)
	meet.Mul(meet, new(big.Rat).SetInt(bigDot(a, b, origin, mark)))
	meet.Add(meet, new(big.Rat).SetInt(bigDot(origin, a, origin, mark)))
	if meet.Cmp(new(big.Rat).SetInt(bigDot(origin, mark, origin, mark))) < 0 {
		return 0
	}
	return all.Sign()
}

// cutStep returns the middle of a step, and whether that is a whole place.
func cutStep(a, b impl.Place) (impl.Place, bool) {
	return at((a.X+b.X)/2, (a.Y+b.Y)/2), (a.X+b.X)%2 == 0 && (a.Y+b.Y)%2 == 0
}

// checkPass checks that PassRay follows its rule for valid places, that the step the other way round
// passes the other way, and that the step that is cut in its middle, if that is a whole place, passes
// alike: one half as the step does, and the other one not. It returns PassRay.
func checkPass(t *testing.T, origin, mark, a, b impl.Place) int {
	t.Helper()
	got, want := impl.PassRay(origin, mark, a, b), passOf(origin, mark, a, b)
	if back := impl.PassRay(origin, mark, b, a); got != want || back != -want {
		t.Fatalf("PassRay(%v, %v, %v, %v): %d, and back %d, want %d", origin, mark, a, b, got, back, want)
	}
	if middle, whole := cutStep(a, b); whole {
		first, second := impl.PassRay(origin, mark, a, middle), impl.PassRay(origin, mark, middle, b)
		if first+second != got || first != 0 && second != 0 {
			t.Fatalf("from %v over %v to %v past %v from %v: %d and %d, want %d in all", a, middle, b, mark, origin, first, second, got)
		}
	}
	return got
}

// quarter returns a place that is turned clockwise by so many right angles.
func quarter(p impl.Place, times int) impl.Place {
	for range times {
		p = at(-p.Y, p.X)
	}
	return p
}

func TestPassRayOfSmallNumbers(t *testing.T) {
	cases := []struct {
		a, b impl.Place
		want int
	}{
		// From the origin (0, 0) the mark lies ten metres to the north, and its ray goes on from there.
		{at(20, 5), at(20, -5), 1}, {at(20, -5), at(20, 5), -1}, {at(11, 1), at(11, -1), 1}, {at(10000, 1), at(10000, -1), 1}, {at(15, 10000), at(15, -10000), 1}, {at(12, 3), at(18, -9), 1}, {at(12, -9), at(10000, 3), -1},
		// It begins on the ray, and ends on it.
		{at(20, 0), at(20, -5), 0}, {at(20, 0), at(20, 5), -1}, {at(20, 5), at(20, 0), 1}, {at(20, -5), at(20, 0), 0}, {at(20, 0), at(-9, 1), -1}, {at(-9, 1), at(20, 0), 1}, {at(11, 0), at(0, 9), -1}, {at(11, 0), at(0, -9), 0},
		// It lies along the ray, or along the way from the origin to it.
		{at(12, 0), at(20, 0), 0}, {at(20, 0), at(12, 0), 0}, {at(10, 0), at(11, 0), 0}, {at(5, 0), at(15, 0), 0}, {at(0, 0), at(10, 0), 0}, {at(10, 0), at(0, 0), 0}, {at(2, 0), at(7, 0), 0}, {at(-10, 0), at(30, 0), 0}, {at(-10, 0), at(-3, 0), 0},
		// It goes through the mark, or begins or ends there.
		{at(10, 5), at(10, -5), 1}, {at(10, -5), at(10, 5), -1}, {at(5, 5), at(15, -5), 1}, {at(15, 5), at(5, -5), 1}, {at(9, 1), at(11, -1), 1}, {at(10, 0), at(10, 7), -1}, {at(10, 7), at(10, 0), 1}, {at(10, 0), at(3, 7), -1}, {at(3, 7), at(10, 0), 1}, {at(10, 0), at(10, -7), 0}, {at(10, -7), at(10, 0), 0},
		// It passes ahead of the mark: as near as a metre, on the way from the origin, and ahead of that.
		{at(9, 5), at(9, -5), 0}, {at(9, -5), at(9, 5), 0}, {at(5, 1), at(5, -1), 0}, {at(0, 5), at(0, -5), 0}, {at(0, -5), at(0, 5), 0}, {at(-20, 5), at(-20, -5), 0}, {at(-20, -5), at(-20, 5), 0}, {at(5, 0), at(5, 5), 0}, {at(5, 5), at(5, 0), 0}, {at(0, 0), at(0, 5), 0}, {at(9, 0), at(20, 5), 0}, {at(20, 5), at(9, 0), 0}, {at(-5, 0), at(20, 5), 0},
		// It begins behind the mark and ends ahead of it, and meets the line on the one or the other side.
		{at(15, 5), at(5, -6), 1}, {at(15, 5), at(5, -4), 0}, {at(15, 6), at(5, -5), 0}, {at(15, 4), at(5, -5), 1}, {at(5, 5), at(15, -6), 0}, {at(5, 5), at(15, -4), 1}, {at(15, -5), at(5, 6), -1}, {at(15, -5), at(5, 4), 0}, {at(10, 5), at(11, -5), 1}, {at(10, 5), at(9, -5), 0}, {at(9, 5), at(12, -6), 1},
		// It stays on one side, or does not move.
		{at(20, 5), at(10, 5), 0}, {at(20, 1), at(0, 9), 0}, {at(20, -5), at(10, -1), 0}, {at(20, 5), at(20, 5), 0}, {at(20, 0), at(20, 0), 0}, {at(20, -5), at(20, -5), 0}, {at(10, 0), at(10, 0), 0}, {at(0, 0), at(0, 0), 0}, {at(5, 0), at(5, 0), 0},
	}
	for _, c := range cases {
		for times := range 4 {
			mark, a, b := quarter(at(10, 0), times), quarter(c.a, times), quarter(c.b, times)
			if got := checkPass(t, at(0, 0), mark, a, b); got != c.want {
				t.Errorf("from %v to %v past %v: %d, want %d", a, b, mark, got, c.want)
			}
		}
	}
}

// Rays along no axis, and the greatest numbers that there are.
func TestPassRayAslant(t *testing.T) {
	cases := []struct {
		origin, mark, a, b impl.Place
		want               int
	}{
		{at(2, 3), at(5, 7), at(8, 12), at(8, 10), 1}, {at(2, 3), at(5, 7), at(8, 10), at(8, 12), -1}, {at(2, 3), at(5, 7), at(8, 12), at(8, 11), 1}, {at(2, 3), at(5, 7), at(8, 11), at(8, 12), -1}, {at(2, 3), at(5, 7), at(8, 11), at(8, 10), 0}, {at(2, 3), at(5, 7), at(4, 8), at(6, 6), 1}, {at(2, 3), at(5, 7), at(4, 8), at(5, 6), 0},
		// A metre beside a mark at the far end of the sea.
		{at(-10000, -10000), at(9999, 9998), at(-10000, -9999), at(10000, 9998), 0}, {at(-10000, -10000), at(9999, 9998), at(-10000, 10000), at(10000, 9998), 1}, {at(-10000, -10000), at(9999, 9998), at(-10000, 10000), at(9999, 9997), 0}, {at(-10000, -10000), at(9999, 9998), at(-10000, 10000), at(9999, 9998), 1}, {at(-10000, -10000), at(9999, 9998), at(9999, 9999), at(9999, 9997), 1},
		// From corner to corner of the sea.
		{at(-10000, -10000), at(10000, 10000), at(-10000, 10000), at(10000, -10000), 0}, {at(10000, 10000), at(-10000, -10000), at(-10000, 10000), at(10000, -10000), 0}, {at(-10000, 10000), at(10000, 10000), at(-10000, -10000), at(10000, 10000), 0}, {at(-10000, -10000), at(-9999, -9999), at(-10000, 10000), at(10000, -10000), 1}, {at(-10000, -10000), at(0, 0), at(-10000, 10000), at(10000, -10000), 1}, {at(-10000, -10000), at(0, 0), at(10000, -10000), at(-10000, 10000), -1}, {at(10000, -10000), at(10000, 10000), at(10000, 9999), at(-10000, -10000), 0}, {at(10000, -10000), at(10000, 10000), at(10000, 10000), at(-10000, -10000), -1}, {at(10000, -10000), at(10000, 10000), at(-10000, 10000), at(10000, 10000), 1}, {at(10000, -10000), at(10000, 10000), at(10000, 10000), at(-10000, 10000), -1},
	}
	for _, c := range cases {
		if got := checkPass(t, c.origin, c.mark, c.a, c.b); got != c.want {
			t.Errorf("PassRay(%v, %v, %v, %v): %d, want %d", c.origin, c.mark, c.a, c.b, got, c.want)
		}
	}
}

// smallGrid returns the places that are at most so many metres from the middle, north and east.
func smallGrid(most int) []impl.Place {
	var grid []impl.Place
	for x := -most; x <= most; x++ {
		for y := -most; y <= most; y++ {
			grid = append(grid, at(x, y))
		}
	}
	return grid
}

// Over a small grid, each origin and each mark, and each step.
func TestPassRayOverAGrid(t *testing.T) {
	grid := smallGrid(2)
	var told [3]int
	for i, origin := range grid {
		for j, mark := range grid {
			if i == j || (i+2*j)%4 != 0 {
				continue
			}
			for _, a := range grid {
				for _, b := range grid {
					told[1+checkPass(t, origin, mark, a, b)]++
				}
			}
		}
	}
	if told[0] < 2000 || told[0] != told[2] || told[1] < 50000 {
		t.Error("only few steps pass:", told)
	}
}

// wildPass returns an origin, a mark and a step whose numbers look random. Many steps pass close to
// the mark, or through it, or begin on the line through it and the origin.
func wildPass(d *dice) (impl.Place, impl.Place, impl.Place, impl.Place) {
	for {
		size := []int{4, 60, 2000, impl.MaxPlace}[d.upTo(4)]
		number := func() int { return d.upTo(2*size+1) - size }
		origin, mark := at(number(), number()), at(number(), number())
		a, b := at(number(), number()), at(number(), number())
		switch d.upTo(6) {
		case 0: // through the mark, or a metre aside of it
			times := 1 + d.upTo(3)
			b = at(mark.X+(mark.X-a.X)*times+d.upTo(3)-1, mark.Y+(mark.Y-a.Y)*times)
		case 1:
			times := 1 + d.upTo(3)
			b = at(mark.X+(mark.X-a.X)*times, mark.Y+(mark.Y-a.Y)*times+d.upTo(3)-1)
		case 2: // from the line through the origin and the mark, or nearly
			a = share(origin, mark, d.upTo(10)-2, 1+d.upTo(4))
		case 3: // from the mark, or from the origin
			a = []impl.Place{mark, origin}[d.upTo(2)]
		}
		if d.upTo(2) == 0 {
			a, b = b, a
		}
		if origin != mark && inSea(a) && inSea(b) {
			return origin, mark, a, b
		}
	}
}

func TestPassRayFollowsItsRule(t *testing.T) {
	d := dice(83)
	var told [3]int
	on, through, missed := 0, 0, 0
	for range 60000 {
		origin, mark, a, b := wildPass(&d)
		got := checkPass(t, origin, mark, a, b)
		told[1+got]++
		l := impl.Line{Port: origin, Starboard: mark}
		from, to := heightAbove(l, a).Sign(), heightAbove(l, b).Sign()
		if got != 0 && (from == 0 || to == 0) {
			on++
		}
		if got != 0 && bigCross(a, mark, a, b).Sign() == 0 {
			through++
		}
		if got == 0 && (from > 0) != (to > 0) {
			missed++
		}
	}
	if told[0] < 7000 || told[1] < 20000 || told[2] < 7000 || on < 1500 || through < 2000 || missed < 10000 {
		t.Error("only few steps pass, or begin or end on the ray, or go through the mark, or ahead of it:", told, on, through, missed)
	}
}

func TestPassRayAtTheEdgesOfTheSea(t *testing.T) {
	passed, d := 0, dice(84)
	places := goodPlaces()
	for _, origin := range places {
		for _, mark := range places {
			if mark == origin {
				continue
			}
			for range 10 {
				if checkPass(t, origin, mark, places[d.upTo(len(places))], places[d.upTo(len(places))]) != 0 {
					passed++
				}
			}
		}
	}
	if passed < 8000 {
		t.Error("only few steps pass:", passed)
	}
}

// turnsAbout returns how often a closed way goes around a mark, counted against the clock: by the
// angles under which its steps are seen from there. No step may go through the mark.
func turnsAbout(mark impl.Place, way []impl.Place) int {
	sum := 0.0
	for i, a := range way {
		b := way[(i+1)%len(way)]
		x, y := float64(a.X-mark.X), float64(a.Y-mark.Y)
		u, v := float64(b.X-mark.X), float64(b.Y-mark.Y)
		sum -= math.Atan2(x*v-y*u, x*u+y*v)
	}
	return int(math.Round(sum / (2 * math.Pi)))
}

// goesThrough reports whether a step of a closed way goes through a place.
func goesThrough(p impl.Place, way []impl.Place) bool {
	for i, a := range way {
		b := way[(i+1)%len(way)]
		if bigCross(a, b, a, p).Sign() == 0 && bigDot(p, a, p, b).Sign() <= 0 {
			return true
		}
	}
	return false
}

// A boat that sails around a mark and leaves it to port passes its ray with 1 in all, wherever its
// origin is; one that leaves it to starboard with -1; and one that does not sail around it with 0.
func TestPassRayAllAround(t *testing.T) {
	d := dice(85)
	turns := map[int]int{}
	for range 20000 {
		var way []impl.Place
		for range 3 + d.upTo(8) {
			way = append(way, at(d.upTo(15)-7, d.upTo(15)-7))
		}
		mark, origin := at(d.upTo(7)-3, d.upTo(7)-3), at(d.upTo(41)-20, d.upTo(41)-20)
		if origin == mark || goesThrough(mark, way) {
			continue
		}
		sum := 0
		for i, a := range way {
			sum += impl.PassRay(origin, mark, a, way[(i+1)%len(way)])
		}
		want := turnsAbout(mark, way)
		turns[want]++
		if sum != want {
			t.Fatalf("around %v from %v by %v: %d, want %d", mark, origin, way, sum, want)
		}
	}
	if turns[0] < 3000 || turns[1] < 1500 || turns[-1] < 1500 || turns[2] < 100 || turns[-2] < 100 {
		t.Error("only few ways around:", turns)
	}
}

// checkNoPass checks that a step passes nothing, either way.
func checkNoPass(t *testing.T, origin, mark, a, b impl.Place) {
	t.Helper()
	if got, back := impl.PassRay(origin, mark, a, b), impl.PassRay(origin, mark, b, a); got != 0 || back != 0 {
		t.Errorf("PassRay(%v, %v, %v, %v): %d, and back %d", origin, mark, a, b, got, back)
	}
}

// The steps would pass the rays, if the numbers that are not valid were taken as they are, or as ones
// within the sea.
func TestPassRayOfWhatIsNotValid(t *testing.T) {
	origin, mark := at(0, 0), at(10, 0)
	for _, bad := range append(brokenParts(), impl.MaxPlace+3) {
		for times := range 4 {
			turn := func(p impl.Place) impl.Place { return quarter(p, times) }
			for _, other := range []impl.Place{at(20, 5), at(20, -5), at(20, 0), at(10, 0)} {
				checkNoPass(t, origin, turn(mark), turn(at(20, bad)), turn(other))
				checkNoPass(t, origin, turn(mark), turn(at(bad, 5)), turn(other))
				checkNoPass(t, origin, turn(mark), turn(at(bad, -5)), turn(other))
				checkNoPass(t, origin, turn(mark), turn(at(bad, bad)), turn(other))
			}
			checkNoPass(t, turn(at(bad, 0)), turn(mark), turn(at(20, 5)), turn(at(20, -5)))
			checkNoPass(t, turn(at(bad, 0)), turn(mark), turn(at(5, 5)), turn(at(5, -5)))
			checkNoPass(t, turn(at(0, bad)), turn(at(0, 7)), turn(at(5, 8)), turn(at(-5, 8)))
			checkNoPass(t, turn(at(0, bad)), turn(at(0, 7)), turn(at(5, 6)), turn(at(-5, 6)))
			checkNoPass(t, origin, turn(at(bad, 0)), turn(at(10000, 5)), turn(at(10000, -5)))
			checkNoPass(t, origin, turn(at(bad, 0)), turn(at(-10000, 5)), turn(at(-10000, -5)))
			checkNoPass(t, origin, turn(at(0, bad)), turn(at(5, 10000)), turn(at(-5, 10000)))
			checkNoPass(t, origin, turn(at(0, bad)), turn(at(5, -10000)), turn(at(-5, -10000)))
		}
	}
	for _, p := range brokenPlaces() {
		checkNoPass(t, p, mark, at(20, 5), at(20, -5))
		checkNoPass(t, p, p, at(20, 5), at(20, -5))
		checkNoPass(t, origin, p, at(20, 5), at(20, -5))
		checkNoPass(t, origin, mark, p, at(20, -5))
		checkNoPass(t, origin, mark, p, at(20, 5))
		checkNoPass(t, origin, mark, p, p)
	}
	for _, p := range goodPlaces() {
		for _, a := range goodPlaces() {
			checkNoPass(t, p, p, a, at(-a.X, -a.Y))
			checkNoPass(t, p, p, a, p)
		}
	}
}
