package tests

import (
	"math"
	"math/big"
	"testing"

	"loop.example/g03321/impl"
)

// bigDot returns the dot of q less p and s less r, with numbers that have no end.
func bigDot(p, q, r, s impl.Place) *big.Int {
	// It is the cross of the one, and of the other turned by a right angle.
	return bigCross(p, q, at(-r.Y, r.X), at(-s.Y, s.X))
}

// crossingOf tells what Crossing must return for a valid line and valid places, by where the step
// meets the line without ends: neither beyond Port nor beyond Starboard.
func crossingOf(l impl.Line, a, b impl.Place) int {
	from, to := sideOf(l, a), sideOf(l, b)
	if (from == 1) == (to == 1) {
		return 0
	}
	// So far along the line they meet, and so far it reaches, both times the line and times h - k.
	h, k := heightAbove(l, a), heightAbove(l, b)
	all := new(big.Int).Sub(h, k)
	begin := new(big.Int).Mul(all, bigDot(l.Port, a, l.Port, l.Starboard))
	meet := begin.Add(begin, new(big.Int).Mul(h, bigDot(a, b, l.Port, l.Starboard)))
	end := new(big.Int).Mul(all, bigDot(l.Port, l.Starboard, l.Port, l.Starboard))
	if meet.Sign()*all.Sign() < 0 || meet.Cmp(end)*all.Sign() > 0 {
		return 0
	}
	if to == 1 {
		return 1
	}
	return -1
}

// checkCrossing checks that Crossing follows its rule, also the other way round, and returns it.
func checkCrossing(t *testing.T, l impl.Line, a, b impl.Place) int {
	t.Helper()
	got, want := impl.Crossing(l, a, b), crossingOf(l, a, b)
	if back := impl.Crossing(l, b, a); got != want || back != -want {
		t.Fatalf("Crossing(%v, %v, %v): %d, and back %d, want %d", l, a, b, got, back, want)
	}
	return got
}

func TestCrossingOfSmallNumbers(t *testing.T) {
	cases := []struct {
		a, b impl.Place
		want int
	}{
		{at(-5, 0), at(5, 0), 1}, {at(-1, 9), at(1, 9), 1}, {at(-10000, 0), at(10000, 0), 1}, {at(-5, 8), at(6, -7), 1},
		// It begins on the line, and ends on it.
		{at(0, 3), at(4, 3), 1}, {at(0, 3), at(1, 10000), 1}, {at(0, 3), at(-4, 3), 0},
		// It touches an end, passes beyond it, and begins or ends there.
		{at(-5, 10), at(5, 10), 1}, {at(-5, -10), at(5, -10), 1}, {at(-5, 5), at(5, 15), 1}, {at(-5, 15), at(5, 5), 1}, {at(-5, -15), at(5, -5), 1}, {at(-5, -5), at(5, -15), 1},
		{at(-5, 11), at(5, 11), 0}, {at(-5, -11), at(5, -11), 0}, {at(-5, 5), at(5, 16), 0}, {at(-5, 5), at(6, 15), 1}, {at(-5, -5), at(5, -16), 0}, {at(-5, -5), at(6, -15), 1}, {at(-5, 10000), at(5, 9000), 0},
		{at(0, 10), at(5, 20), 1}, {at(0, 10), at(5, -20), 1}, {at(0, -10), at(5, -20), 1}, {at(0, 10), at(-5, 10), 0},
		{at(0, 11), at(5, 11), 0}, {at(0, 11), at(5, 0), 0}, {at(0, -11), at(5, 0), 0}, {at(0, 11), at(-5, 0), 0}, {at(0, -10000), at(1, 0), 0},
		// It lies along the line, or on one side, or does not move.
		{at(0, -20), at(0, 20), 0}, {at(0, -5), at(0, 5), 0}, {at(0, -10), at(0, 10), 0}, {at(0, 12), at(0, 20), 0}, {at(0, 3), at(0, -20), 0},
		{at(5, -3), at(5, 3), 0}, {at(1, 0), at(7, 4), 0}, {at(-5, -3), at(-5, 3), 0}, {at(-9, 0), at(-1, 0), 0},
		{at(0, 0), at(0, 0), 0}, {at(0, 10), at(0, 10), 0}, {at(5, 0), at(5, 0), 0}, {at(-5, 0), at(-5, 0), 0}, {at(0, 11), at(0, 11), 0},
	}
	l := lineFrom(0, -10, 0, 10)
	for _, c := range cases {
		if got := checkCrossing(t, l, c.a, c.b); got != c.want {
			t.Errorf("from %v to %v: %d, want %d", c.a, c.b, got, c.want)
		}
		if back := impl.Crossing(l, c.b, c.a); back != -c.want {
			t.Errorf("from %v back to %v: %d, want %d", c.b, c.a, back, -c.want)
		}
		// The same, a quarter of a turn further.
		if got := checkCrossing(t, lineFrom(10, 0, -10, 0), at(-c.a.Y, c.a.X), at(-c.b.Y, c.b.X)); got != c.want {
			t.Errorf("from %v to %v, turned: %d, want %d", c.a, c.b, got, c.want)
		}
	}
}

// Over a small grid, each line and each step, and each step that has a middle, cut there.
func TestCrossingOverAGrid(t *testing.T) {
	var grid []impl.Place
	for x := -2; x <= 2; x++ {
		for y := -2; y <= 2; y++ {
			grid = append(grid, at(x, y))
		}
	}
	var told [3]int
	for i, port := range grid {
		for j, starboard := range grid {
			if i == j || (i+2*j)%3 == 0 {
				continue
			}
			l := impl.Line{Port: port, Starboard: starboard}
			for _, a := range grid {
				for _, b := range grid {
					told[1+checkCrossing(t, l, a, b)]++
					checkHalves(t, l, a, b)
				}
			}
		}
	}
	if told[0] < 10000 || told[0] != told[2] || told[1] < 100000 {
		t.Error("only few steps cross:", told)
	}
}

// checkHalves checks that a step that is cut in its middle, if that is a whole place, crosses a line
// alike: one half as the step does, and the other one not.
func checkHalves(t *testing.T, l impl.Line, a, b impl.Place) {
	t.Helper()
	if (a.X+b.X)%2 != 0 || (a.Y+b.Y)%2 != 0 {
		return
	}
	middle := at((a.X+b.X)/2, (a.Y+b.Y)/2)
	all, first, second := impl.Crossing(l, a, b), impl.Crossing(l, a, middle), impl.Crossing(l, middle, b)
	if first+second != all || first != 0 && second != 0 {
		t.Fatalf("from %v over %v to %v across %v: %d and %d, want %d in all", a, middle, b, l, first, second, all)
	}
}

// wildStep returns a line and a step whose numbers look random. Many steps meet the line, end on it,
// or pass close to its ends.
func wildStep(d *dice) (impl.Line, impl.Place, impl.Place) {
	for {
		size := []int{4, 60, 2000, impl.MaxPlace}[d.upTo(4)]
		number := func() int { return d.upTo(2*size+1) - size }
		l := lineFrom(number(), number(), number(), number())
		a, b := at(number(), number()), at(number(), number())
		switch d.upTo(6) {
		case 0: // through an end, or a metre aside of it
			times := 1 + d.upTo(3)
			b = at(l.Port.X+(l.Port.X-a.X)*times+d.upTo(3)-1, l.Port.Y+(l.Port.Y-a.Y)*times)
		case 1:
			times := 1 + d.upTo(3)
			b = at(l.Starboard.X+(l.Starboard.X-a.X)*times, l.Starboard.Y+(l.Starboard.Y-a.Y)*times+d.upTo(3)-1)
		case 2: // from the line, or what goes on beyond its ends
			a = share(l.Port, l.Starboard, d.upTo(5)-1, 1+d.upTo(3))
		case 3: // from the middle of the line, or a metre aside of it
			a = at((l.Port.X+l.Starboard.X)/2, (l.Port.Y+l.Starboard.Y)/2)
		}
		if d.upTo(2) == 0 {
			a, b = b, a
		}
		if l.Port != l.Starboard && inSea(a) && inSea(b) {
			return l, a, b
		}
	}
}

func TestCrossingFollowsItsRule(t *testing.T) {
	d := dice(72)
	var told [3]int
	touched, missed := 0, 0
	for range 60000 {
		l, a, b := wildStep(&d)
		got := checkCrossing(t, l, a, b)
		checkHalves(t, l, a, b)
		told[1+got]++
		if bigCross(a, b, a, l.Port).Sign() == 0 || bigCross(a, b, a, l.Starboard).Sign() == 0 {
			touched++
		}
		if got == 0 && (sideOf(l, a) == 1) != (sideOf(l, b) == 1) {
			missed++
		}
	}
	if told[0] < 8000 || told[1] < 8000 || told[2] < 8000 || touched < 4000 || missed < 8000 {
		t.Error("only few steps cross, or touch an end, or pass beyond:", told, touched, missed)
	}
}

func TestCrossingAtTheEdgesOfTheSea(t *testing.T) {
	crossed := 0
	for _, l := range goodLines() {
		places := append(goodPlaces(), l.Port, l.Starboard)
		for _, a := range places {
			for i := 0; i < len(places); i += 3 {
				if checkCrossing(t, l, a, places[i]) != 0 {
					crossed++
				}
				checkHalves(t, l, a, places[i])
			}
		}
	}
	if crossed < 5000 {
		t.Error("only few steps cross:", crossed)
	}
}

// The steps would cross the lines, if the numbers that are not valid were taken as they are.
func TestCrossingOfWhatIsNotValid(t *testing.T) {
	none := func(l impl.Line, a, b impl.Place) {
		t.Helper()
		for _, pair := range [][2]impl.Place{{a, b}, {b, a}} {
			if got := impl.Crossing(l, pair[0], pair[1]); got != 0 {
				t.Errorf("Crossing(%v, %v, %v): %d", l, pair[0], pair[1], got)
			}
			if got, ok := impl.CrossTime(l, impl.Sight{At: pair[0]}, impl.Sight{At: pair[1], Time: 60}); got != 0 || ok {
				t.Errorf("CrossTime from %v to %v across %v: %d %v", pair[0], pair[1], l, got, ok)
			}
		}
	}
	l := lineFrom(0, -10, 0, 10)
	for _, bad := range brokenParts() {
		for _, good := range []impl.Place{at(5, 0), at(-5, 0), at(0, 0)} {
			none(l, at(bad, 0), good)
			none(l, good, at(bad, bad))
			none(l, good, at(0, bad))
			none(lineFrom(-1, -10, 1, 10), at(0, bad), good)
		}
		for _, broken := range []impl.Line{lineFrom(0, bad, 0, 10), lineFrom(0, -10, 0, bad), lineFrom(bad, 0, 10, 0), lineFrom(-10, 0, bad, 0)} {
			none(broken, at(-5, -5), at(5, 5))
			none(broken, at(-5, 0), at(5, 0))
			none(broken, at(0, -5), at(0, 5))
		}
	}
	for _, broken := range brokenLines() {
		none(broken, at(-9000, 20), at(9000, -20))
		none(broken, at(20, -9000), at(-20, 9000))
		none(broken, broken.Port, at(30, 50))
	}
	for _, p := range brokenPlaces() {
		none(l, p, at(5, 0))
		none(l, at(-5, 0), p)
		none(l, p, p)
	}
}

// timeAcross follows the rule for CrossTime, where the sights are a valid track of two, and the step
// crosses the line: the share of the step up to there as a fraction, rounded up.
func timeAcross(l impl.Line, s, t impl.Sight) int {
	h, k := heightAbove(l, s.At), heightAbove(l, t.At)
	time := new(big.Rat).SetFrac(h, new(big.Int).Sub(h, k))
	time.Mul(time, big.NewRat(int64(t.Time-s.Time), 1))
	time.Add(time, big.NewRat(int64(s.Time), 1))
	rest := new(big.Int)
	whole, _ := new(big.Int).DivMod(time.Num(), time.Denom(), rest)
	return int(whole.Int64()) + rest.Sign()
}

// checkCrossTime checks that CrossTime follows its rule for a valid line and a valid track of two
// sights, and that the step that is cut in its middle crosses at the same second. It returns the time.
func checkCrossTime(t *testing.T, l impl.Line, from, to impl.Sight) (int, bool) {
	t.Helper()
	want, fine := 0, impl.Crossing(l, from.At, to.At) != 0
	if fine {
		want = timeAcross(l, from, to)
	}
	got, ok := impl.CrossTime(l, from, to)
	if got != want || ok != fine || ok && (got < from.Time || got > to.Time) {
		t.Fatalf("CrossTime(%v, %v, %v): %d %v, want %d %v", l, from, to, got, ok, want, fine)
	}
	if (from.At.X+to.At.X)%2 != 0 || (from.At.Y+to.At.Y)%2 != 0 || (from.Time+to.Time)%2 != 0 {
		return got, ok
	}
	middle := sight((from.At.X+to.At.X)/2, (from.At.Y+to.At.Y)/2, (from.Time+to.Time)/2)
	first, one := impl.CrossTime(l, from, middle)
	second, other := impl.CrossTime(l, middle, to)
	if first+second != got || one && other || (one || other) != ok {
		t.Fatalf("from %v over %v to %v across %v: %d %v and %d %v, want %d", from, middle, to, l, first, one, second, other, got)
	}
	return got, ok
}

func TestCrossTimeOfSmallNumbers(t *testing.T) {
	const last = impl.MaxTime
	cases := []struct {
		s, t impl.Sight
		want int
		ok   bool
	}{
		{sight(-5, 0, 0), sight(5, 0, 10), 5, true}, {sight(-5, 0, 0), sight(6, 0, 10), 5, true}, {sight(-6, 0, 0), sight(5, 0, 10), 6, true}, {sight(5, 0, 100), sight(-5, 0, 110), 105, true}, {sight(6, 0, 100), sight(-5, 0, 110), 106, true}, {sight(5, 0, 100), sight(-6, 0, 110), 105, true},
		// At a whole second, just below one, and just above it.
		{sight(-1, 0, 7), sight(9999, 0, 10007), 8, true}, {sight(-1, 0, 7), sight(9999, 0, 10006), 8, true}, {sight(-1, 0, 7), sight(9999, 0, 10008), 9, true}, {sight(1, 0, 7), sight(-9999, 0, 10007), 8, true}, {sight(1, 0, 7), sight(-9999, 0, 10006), 8, true}, {sight(1, 0, 7), sight(-9999, 0, 10008), 9, true},
		{sight(-9999, 0, 0), sight(1, 0, 10000), 9999, true}, {sight(-9999, 0, 0), sight(1, 0, 10001), 10000, true}, {sight(-9999, 0, 0), sight(1, 0, 9999), 9999, true},
		// At the first second of the step, at the last one, and just beside them.
		{sight(0, 3, 40), sight(5, 3, 60), 40, true}, {sight(0, 10, 0), sight(10000, 10, last), 0, true}, {sight(5, 3, 40), sight(0, 3, 60), 60, true}, {sight(10000, -10, 0), sight(0, -10, last), last, true}, {sight(-1, 0, 40), sight(10000, 0, 60), 41, true}, {sight(-10000, 0, 40), sight(1, 0, 60), 60, true},
		// Steps of a second, and of all the time.
		{sight(-5, 0, 8), sight(5, 0, 9), 9, true}, {sight(0, 0, 8), sight(5, 0, 9), 8, true}, {sight(5, 0, last-1), sight(0, 0, last), last, true}, {sight(-3, 0, 0), sight(7, 0, last), 3000000, true}, {sight(-3, 0, 0), sight(4, 0, last), 4285715, true}, {sight(4, 0, 0), sight(-3, 0, last), 5714286, true},
		// No crossing, and times that are no track.
		{sight(-5, 0, 0), sight(0, 0, 10), 0, false}, {sight(0, 0, 0), sight(-5, 0, 10), 0, false}, {sight(-5, 11, 0), sight(5, 11, 10), 0, false}, {sight(5, 0, 0), sight(5, 0, 10), 0, false}, {sight(0, 0, 0), sight(0, 5, 10), 0, false},
		{sight(-5, 0, 10), sight(5, 0, 10), 0, false}, {sight(-5, 0, 10), sight(5, 0, 9), 0, false}, {sight(-5, 0, 10), sight(5, 0, 0), 0, false}, {sight(-5, 0, -1), sight(5, 0, 10), 0, false}, {sight(-5, 0, -5), sight(5, 0, -1), 0, false}, {sight(0, 0, last), sight(5, 0, last+1), 0, false}, {sight(0, 0, 0), sight(5, 0, 0), 0, false}, {sight(-5, 0, last+1), sight(5, 0, last+9), 0, false},
	}
	for _, c := range cases {
		if got, ok := impl.CrossTime(lineFrom(0, -10, 0, 10), c.s, c.t); got != c.want || ok != c.ok {
			t.Errorf("from %v to %v: %d %v, want %d %v", c.s, c.t, got, ok, c.want, c.ok)
		}
	}
}

func TestCrossTimeFollowsItsRule(t *testing.T) {
	d, crossed, first, last := dice(73), 0, 0, 0
	for i := range 60000 {
		l, a, b := wildStep(&d)
		most := []int{2, 60, 5000, impl.MaxTime}[i%4]
		from := d.upTo(impl.MaxTime + 1 - most)
		to := from + 1 + d.upTo(most)
		time, ok := checkCrossTime(t, l, impl.Sight{At: a, Time: from}, impl.Sight{At: b, Time: to})
		if ok {
			crossed++
		}
		if ok && time == from {
			first++
		}
		if ok && sideOf(l, b) == 0 {
			last++
		}
	}
	if crossed < 20000 || first < 1000 || last < 1000 {
		t.Error("only few steps cross, or at their first or their last second:", crossed, first, last)
	}
}

// besideWhole returns in how many seconds a step comes to a line, times h - k, the rest being as
// given, and true, if the step may be sailed so.
func besideWhole(h, all *big.Int, rest int64) (int, bool) {
	inverse := new(big.Int).ModInverse(h, all)
	if inverse == nil {
		return 0, false
	}
	seconds := inverse.Mul(inverse, big.NewInt(rest))
	seconds.Mod(seconds, all)
	// As late as may be.
	room := new(big.Int).Sub(big.NewInt(impl.MaxTime), seconds)
	if seconds.Sign() == 0 || room.Sign() < 0 {
		return 0, false
	}
	seconds.Add(seconds, room.Sub(room, new(big.Int).Mod(room, all)))
	return int(seconds.Int64()), true
}

// longStep returns a line that leads from one corner of the sea to the opposite one, and a step that
// crosses it from about one of the others to the other one, or to the middle.
func longStep(d *dice) (impl.Line, impl.Place, impl.Place) {
	corner := func(x, y int) impl.Place { return at(x*(impl.MaxPlace-d.upTo(500)), y*(impl.MaxPlace-d.upTo(500))) }
	l := impl.Line{Port: corner(-1, -1), Starboard: corner(1, 1)}
	a, b := corner(1, -1), corner(-1, 1)
	switch d.upTo(4) {
	case 0:
		a, b = b, a
	case 1:
		b = at(-1000+d.upTo(300), 1000+d.upTo(300))
	}
	return l, a, b
}

// Times that lie as close below or above a whole second as the heights allow it.
func TestCrossTimeBesideAWholeSecond(t *testing.T) {
	d := dice(74)
	var beside [2]int
	for i := range 100000 {
		l, a, b := wildStep(&d)
		if i%2 == 0 {
			l, a, b = longStep(&d)
		}
		h := heightAbove(l, a)
		all := new(big.Int).Sub(h, heightAbove(l, b))
		if impl.Crossing(l, a, b) == 0 || h.Sign() == 0 {
			continue
		}
		h.Abs(h)
		all.Abs(all)
		for _, rest := range []int64{1, 2, -1} {
			seconds, ok := besideWhole(h, all, rest)
			if !ok {
				continue
			}
			beside[i%2]++
			from := sight(a.X, a.Y, d.upTo(impl.MaxTime+1-seconds))
			checkCrossTime(t, l, from, sight(b.X, b.Y, from.Time+seconds))
		}
	}
	if beside[0] < 300 || beside[1] < 10000 {
		t.Error("only few steps cross beside a whole second:", beside)
	}
}

func TestCrossTimeAtWholeSeconds(t *testing.T) {
	d, crossed, rounded := dice(75), 0, 0
	for range 60000 {
		l, a, b := wildStep(&d)
		all := new(big.Int).Sub(heightAbove(l, a), heightAbove(l, b))
		if impl.Crossing(l, a, b) == 0 || all.CmpAbs(big.NewInt(impl.MaxTime)) > 0 {
			continue
		}
		// So many seconds, and one more or less of them.
		whole := int(new(big.Int).Abs(all).Int64())
		whole *= 1 + d.upTo(impl.MaxTime/whole)
		for seconds := max(1, whole-1); seconds <= min(whole+1, impl.MaxTime); seconds++ {
			crossed++
			from := sight(a.X, a.Y, d.upTo(impl.MaxTime+1-seconds))
			got, _ := checkCrossTime(t, l, from, sight(b.X, b.Y, from.Time+seconds))
			h := heightAbove(l, a)
			part := new(big.Int).Mul(h, big.NewInt(int64(whole)))
			if seconds == whole && got != from.Time+int(part.Quo(part, all).Int64()) {
				t.Errorf("from %v to %v across %v in %d seconds: %d", from, b, l, seconds, got)
			}
			// By floats, some of these times would be rounded to just above the whole second.
			if math.Ceil(float64(seconds)*(float64(h.Int64())/float64(all.Int64()))) > float64(got-from.Time) {
				rounded++
			}
		}
	}
	if crossed < 10000 || rounded < 100 {
		t.Error("only few steps cross, or so that floats fail:", crossed, rounded)
	}
}

// A step that is cut in its middle, a whole place and a whole second, crosses alike and at the same
// second: by its first half, or by its second one, also where the middle lies on the line.
func TestAStepThatIsCutInItsMiddle(t *testing.T) {
	d := dice(76)
	var crossed, halved [2]int
	for range 60000 {
		l, a, b := wildStep(&d)
		b = at(b.X-(b.X+a.X)%2, b.Y-(b.Y+a.Y)%2)
		from := impl.Sight{At: a, Time: d.upTo(1000)}
		to := impl.Sight{At: b, Time: from.Time + 2 + 2*d.upTo([]int{1, 30, 4000000}[d.upTo(3)])}
		middle := sight((a.X+b.X)/2, (a.Y+b.Y)/2, (from.Time+to.Time)/2)
		if !inSea(b) {
			continue
		}
		all, time := impl.Crossing(l, a, b), 0
		for half, step := range [2][2]impl.Sight{{from, middle}, {middle, to}} {
			got, ok := impl.CrossTime(l, step[0], step[1])
			if one := impl.Crossing(l, step[0].At, step[1].At); one != 0 && one != all || ok != (one != 0) {
				t.Fatalf("from %v to %v across %v: %d %v, want %d or none", step[0], step[1], l, one, ok, all)
			}
			if ok {
				crossed[half]++
			}
			time += got
		}
		if want, _ := impl.CrossTime(l, from, to); time != want {
			t.Fatalf("from %v over %v to %v across %v: %d, want %d", from, middle, to, l, time, want)
		}
		if all != 0 && sideOf(l, middle.At) == 0 {
			halved[max(all, 0)]++
		}
	}
	if crossed[0] < 5000 || crossed[1] < 5000 || halved[0] < 100 || halved[1] < 100 {
		t.Error("only few halves cross, or meet on the line:", crossed, halved)
	}
}

func TestCrossTimeOfTimesThatAreNotValid(t *testing.T) {
	l := lineFrom(0, -10, 0, 10)
	for _, bad := range append(brokenTimes(), math.MinInt+1, math.MaxInt-1) {
		for _, other := range []int{0, 5, impl.MaxTime, bad, math.MinInt, math.MaxInt} {
			for _, x := range []int{-5, 5, 0} {
				for _, pair := range [][2]impl.Sight{{sight(x, 0, bad), sight(5, 1, other)}, {sight(x, 0, other), sight(5, 1, bad)}, {sight(5, 0, bad), sight(-x, 0, other)}, {sight(5, 0, other), sight(-x, 0, bad)}} {
					if got, ok := impl.CrossTime(l, pair[0], pair[1]); got != 0 || ok {
						t.Errorf("from %v to %v: %d %v", pair[0], pair[1], got, ok)
					}
				}
			}
		}
	}
}
