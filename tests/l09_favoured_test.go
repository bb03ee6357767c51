package tests

import (
	"math"
	"testing"

	"loop.example/g03321/impl"
)

// favouredOf follows the rule for Favoured, where the line is valid.
func favouredOf(l impl.Line, from int) int {
	turn := ruledTurn(from)
	x, y := float64(l.Starboard.X-l.Port.X), float64(l.Starboard.Y-l.Port.Y)
	switch dot := plus(times(x, real(turn)), times(y, imag(turn))); {
	case dot > 0:
		return 1
	case dot < 0:
		return -1
	default:
		return 0
	}
}

// checkFavoured checks that Favoured follows its rule, that it turns with the line, and returns it.
func checkFavoured(t *testing.T, l impl.Line, from int) int {
	t.Helper()
	got, want := impl.Favoured(l, from), favouredOf(l, from)
	if turned := impl.Favoured(turnedLine(l), from); got != want || turned != -want {
		t.Fatalf("Favoured(%v, %d): %d, and %d from its other end, want %d", l, from, got, turned, want)
	}
	return got
}

func TestFavouredOfSmallNumbers(t *testing.T) {
	cases := []struct {
		l    impl.Line
		from int
		want int
	}{
		// From the west to the east: a wind along it, aslant, and square to it.
		{lineFrom(0, -10, 0, 10), 90, 1}, {lineFrom(0, -10, 0, 10), 270, -1}, {lineFrom(0, -10, 0, 10), 1, 1}, {lineFrom(0, -10, 0, 10), 359, -1}, {lineFrom(0, -10, 0, 10), 135, 1}, {lineFrom(0, -10, 0, 10), 225, -1}, {lineFrom(0, -10, 0, 10), 0, 0}, {lineFrom(7, 3, 7, 4), 0, 0}, {lineFrom(7, 10000, 7, -10000), 0, 0},
		{lineFrom(0, -10, 0, 10), 450, 1}, {lineFrom(0, -10, 0, 10), -90, -1}, {lineFrom(0, -10, 0, 10), -270, 1}, {lineFrom(0, -10, 0, 10), 360, 0}, {lineFrom(0, -10, 0, 10), -7200, 0}, {lineFrom(0, -10, 0, 10), 361, 1}, {lineFrom(0, -10, 0, 10), -1, -1},
		// From the south to the north.
		{lineFrom(-10, 0, 10, 0), 0, 1}, {lineFrom(-10, 0, 10, 0), 180, -1}, {lineFrom(-10, 0, 10, 0), 89, 1}, {lineFrom(-10, 0, 10, 0), 91, -1}, {lineFrom(-10, 0, 10, 0), 269, -1}, {lineFrom(-10, 0, 10, 0), 271, 1},
		// Aslant.
		{lineFrom(0, 0, 100, 100), 45, 1}, {lineFrom(0, 0, 100, 100), 225, -1}, {lineFrom(0, 0, 100, 100), 134, 1}, {lineFrom(0, 0, 100, 100), 136, -1}, {lineFrom(0, 0, 100, 100), 314, -1}, {lineFrom(0, 0, 100, 100), 316, 1}, {lineFrom(3, 4, 0, 0), 53, -1}, {lineFrom(3, 4, 0, 0), 233, 1},
		// By the roundings of Turn, a wind from 90, 180 or 270 is never quite square to a line.
		{lineFrom(-10, 0, 10, 0), 90, 1}, {lineFrom(-10, 0, 10, 0), 270, -1}, {lineFrom(0, -10, 0, 10), 180, 1}, {lineFrom(0, 4, 0, 3), 180, -1}, {lineFrom(0, -10000, 0, 10000), 540, 1},
	}
	for _, c := range cases {
		if got := checkFavoured(t, c.l, c.from); got != c.want {
			t.Errorf("Favoured(%v, %d): %d, want %d", c.l, c.from, got, c.want)
		}
	}
}

func TestFavouredFollowsItsRule(t *testing.T) {
	d := dice(80)
	var told [3]int
	lines := goodLines()
	for range 100 {
		l, _, _ := wildStep(&d)
		lines = append(lines, l)
	}
	for _, l := range lines {
		for from := range 360 {
			told[1+checkFavoured(t, l, from)]++
		}
		for _, from := range edgeDegrees() {
			told[1+checkFavoured(t, l, from)]++
		}
	}
	if told[0] < 10000 || told[1] < 20 || told[2] < 10000 {
		t.Error("only few lines with one end favoured:", told)
	}
}

// The end is favoured that lies farther towards the wind, if the wind is not square to the line.
func TestFavouredEndLiesNearerToTheWind(t *testing.T) {
	d := dice(81)
	for range 300 {
		l, _, _ := wildStep(&d)
		for from := -360; from < 720; from += 7 {
			angle := float64(from) * math.Pi / 180
			towards := func(p impl.Place) float64 { return float64(p.X)*math.Cos(angle) + float64(p.Y)*math.Sin(angle) }
			port, starboard := towards(l.Port), towards(l.Starboard)
			if math.Abs(port-starboard) < 1e-6 {
				continue
			}
			if got := impl.Favoured(l, from); (got == 1) != (starboard > port) || (got == -1) != (port > starboard) {
				t.Fatalf("Favoured(%v, %d): %d", l, from, got)
			}
		}
	}
}

func TestFavouredOfWhatIsNotValid(t *testing.T) {
	for _, l := range brokenLines() {
		for _, from := range []int{0, 33, 90, 215, 270, -45, math.MinInt, math.MaxInt} {
			if got, turned := impl.Favoured(l, from), impl.Favoured(turnedLine(l), from); got != 0 || turned != 0 {
				t.Errorf("Favoured(%v, %d): %d %d", l, from, got, turned)
			}
		}
	}
}
