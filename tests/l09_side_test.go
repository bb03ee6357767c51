package tests

import (
	"math/big"
	"testing"

	"loop.example/g03321/impl"
)

// bigCross returns the cross of q less p and s less r, with numbers that have no end.
func bigCross(p, q, r, s impl.Place) *big.Int {
	product := func(a, b, c, d int) *big.Int {
		left := new(big.Int).Sub(big.NewInt(int64(a)), big.NewInt(int64(b)))
		return left.Mul(left, new(big.Int).Sub(big.NewInt(int64(c)), big.NewInt(int64(d))))
	}
	return new(big.Int).Sub(product(q.X, p.X, s.Y, r.Y), product(q.Y, p.Y, s.X, r.X))
}

// heightAbove returns the height of a place.
func heightAbove(l impl.Line, p impl.Place) *big.Int {
	return bigCross(l.Port, l.Starboard, l.Port, p)
}

// sideOf follows the rule for SideOf, where the line and the place are valid.
func sideOf(l impl.Line, p impl.Place) int { return -heightAbove(l, p).Sign() }

// checkSide checks that SideOf follows its rule, that it turns with the line, and returns it.
func checkSide(t *testing.T, l impl.Line, p impl.Place) int {
	t.Helper()
	got, want := impl.SideOf(l, p), sideOf(l, p)
	if turned := impl.SideOf(turnedLine(l), p); got != want || turned != -want {
		t.Fatalf("SideOf(%v, %v): %d, and %d from its other end, want %d", l, p, got, turned, want)
	}
	return got
}

// share returns the place at k shares of n of the way from p to q, cut off to whole metres.
func share(p, q impl.Place, k, n int) impl.Place {
	return at(p.X+(q.X-p.X)*k/n, p.Y+(q.Y-p.Y)*k/n)
}

// ahead returns the place that lies ahead of p, square to a line, n times as far as the line is long.
func ahead(l impl.Line, p impl.Place, n int) impl.Place {
	return at(p.X+n*(l.Starboard.Y-l.Port.Y), p.Y-n*(l.Starboard.X-l.Port.X))
}

func TestSideOfSmallNumbers(t *testing.T) {
	cases := []struct {
		l    impl.Line
		p    impl.Place
		want int
	}{
		// North of a line from the west to the east is ahead, and so on around.
		{lineFrom(0, -10, 0, 10), at(1, 0), 1}, {lineFrom(0, -10, 0, 10), at(-1, 0), -1}, {lineFrom(0, -10, 0, 10), at(0, 0), 0}, {lineFrom(0, 10, 0, -10), at(-1, 0), 1}, {lineFrom(0, 10, 0, -10), at(1, 0), -1},
		{lineFrom(10, 0, -10, 0), at(0, 1), 1}, {lineFrom(10, 0, -10, 0), at(0, -1), -1}, {lineFrom(-10, 0, 10, 0), at(0, -1), 1}, {lineFrom(-10, 0, 10, 0), at(0, 1), -1},
		// Beyond its ends a line still has two sides.
		{lineFrom(0, -10, 0, 10), at(1, 10000), 1}, {lineFrom(0, -10, 0, 10), at(-1, -10000), -1}, {lineFrom(0, -10, 0, 10), at(0, 5000), 0}, {lineFrom(0, -10, 0, 10), at(0, -11), 0},
		// At its ends, and a metre aside of them.
		{lineFrom(2, 3, 5, 7), at(2, 3), 0}, {lineFrom(2, 3, 5, 7), at(5, 7), 0}, {lineFrom(2, 3, 5, 7), at(3, 3), 1}, {lineFrom(2, 3, 5, 7), at(2, 4), -1}, {lineFrom(2, 3, 5, 7), at(8, 11), 0}, {lineFrom(2, 3, 5, 7), at(-1, -1), 0},
		// The nearest that a place can lie to a line as long as the plane allows.
		{lineFrom(-10000, -10000, 10000, 9999), at(0, 0), -1}, {lineFrom(-10000, -10000, 10000, 9999), at(1, 0), 1}, {lineFrom(-10000, -10000, 9999, 10000), at(0, 0), 1}, {lineFrom(-10000, -10000, 9999, 10000), at(0, 1), -1},
		{lineFrom(-10000, -10000, 9999, 9998), at(9998, 9997), 1}, {lineFrom(-10000, -10000, 9999, 9998), at(-9999, -9999), -1}, {lineFrom(-10000, -10000, 9999, 9998), at(-9999, -10000), 1},
	}
	for _, c := range cases {
		if got := checkSide(t, c.l, c.p); got != c.want {
			t.Errorf("SideOf(%v, %v): %d, want %d", c.l, c.p, got, c.want)
		}
	}
}

func TestSideOfFollowsItsRule(t *testing.T) {
	var sides [3]int
	look := func(l impl.Line, p impl.Place) {
		t.Helper()
		sides[1+checkSide(t, l, p)]++
	}
	for _, l := range goodLines() {
		for _, p := range goodPlaces() {
			look(l, p)
		}
	}
	d := dice(71)
	for i := range 30000 {
		size := []int{3, 30, 1000, 10000}[i%4]
		somewhere := func() impl.Place { return at(d.upTo(2*size+1)-size, d.upTo(2*size+1)-size) }
		if l := (impl.Line{Port: somewhere(), Starboard: somewhere()}); l.Port != l.Starboard {
			look(l, somewhere())
		}
	}
	if sides[0] < 10000 || sides[1] < 500 || sides[2] < 10000 {
		t.Error("only few places on one side:", sides)
	}
}

// On a line, between its ends, at them and beyond them, is neither ahead nor behind; all that is
// square to it, is.
func TestSideOfPlacesOnALine(t *testing.T) {
	met := 0
	for _, l := range []impl.Line{lineFrom(0, -10, 0, 10), lineFrom(-700, 300, 900, -500), lineFrom(40, 40, -40, 0), lineFrom(-1000, -3, 1000, -3), lineFrom(9000, 8000, 8000, 8500), lineFrom(3, 3, 13, 23)} {
		for k := -30; k <= 40; k++ {
			p := share(l.Port, l.Starboard, k, 10)
			if !inSea(p) {
				continue
			}
			if got := checkSide(t, l, p); got != 0 {
				t.Errorf("SideOf(%v, %v): %d", l, p, got)
			}
			for _, n := range []int{1, 2, 5, -1, -2, -5} {
				aside, want := ahead(l, p, n), 1
				if n < 0 {
					want = -1
				}
				if !inSea(aside) {
					continue
				}
				met++
				if got := checkSide(t, l, aside); got != want {
					t.Errorf("SideOf(%v, %v): %d, want %d", l, aside, got, want)
				}
			}
		}
	}
	if met < 1000 {
		t.Error("only few places:", met)
	}
}

func TestSideOfWhatIsNotValid(t *testing.T) {
	for _, l := range brokenLines() {
		for _, p := range []impl.Place{at(5, 3), at(-5, 3), at(10000, -10000), at(0, 0)} {
			if got, turned := impl.SideOf(l, p), impl.SideOf(turnedLine(l), p); got != 0 || turned != 0 {
				t.Errorf("SideOf(%v, %v): %d %d", l, p, got, turned)
			}
		}
	}
	for _, p := range brokenPlaces() {
		for _, l := range goodLines() {
			if got := impl.SideOf(l, p); got != 0 {
				t.Errorf("SideOf(%v, %v): %d", l, p, got)
			}
		}
		if got := impl.SideOf(impl.Line{Port: p, Starboard: at(3, 4)}, p); got != 0 {
			t.Errorf("of its own end %v: %d", p, got)
		}
	}
}
