package tests

import (
	"math"
	"math/big"
	"testing"

	"loop.example/g03321/impl"
)

// windSideOf follows the rule for WindSide.
func windSideOf(heading, from int) int {
	right, _ := sides(heading, from)
	if right >= 1 && right <= 179 {
		return 1
	}
	if right > 180 {
		return -1
	}
	return 0
}

// leewayOf follows the rule for Leeway, with numbers that have no end.
func leewayOf(heading, from, drift int) int {
	turned := big.NewInt(int64(drift * windSideOf(heading, from)))
	return degrees(turned.Sub(big.NewInt(int64(heading)), turned))
}

// drifts returns all valid drifts.
func drifts() []int {
	var list []int
	for drift := 0; drift <= impl.MaxLeeway; drift++ {
		list = append(list, drift)
	}
	return list
}

// brokenDrifts returns drifts that are not valid.
func brokenDrifts() []int {
	return []int{-1, -2, -impl.MaxLeeway, -360, impl.MaxLeeway + 1, 45, 360, 360 + 5, -360 + 5, 1 << 32, 1<<32 + 5, -1<<32 + 5, math.MinInt, math.MinInt + 5, math.MaxInt}
}

func TestWindSideFollowsItsRule(t *testing.T) {
	for _, heading := range edgeDegrees() {
		for _, from := range edgeDegrees() {
			if got, want := impl.WindSide(heading, from), windSideOf(heading, from); got != want {
				t.Fatalf("WindSide(%d, %d): %d, want %d", heading, from, got, want)
			}
		}
	}
	for heading := -370; heading <= 370; heading += 5 {
		for from := -370; from <= 370; from++ {
			if got, want := impl.WindSide(heading, from), windSideOf(heading, from); got != want {
				t.Fatalf("WindSide(%d, %d): %d, want %d", heading, from, got, want)
			}
		}
	}
}

// A wind from ahead and one from astern come in on no side, those a degree beside them on that side.
func TestWindSideAboutAheadAndAstern(t *testing.T) {
	headings := []int{math.MinInt + 360, math.MaxInt - 720}
	for heading := -400; heading <= 800; heading++ {
		headings = append(headings, heading)
	}
	for _, heading := range headings {
		for aside, want := range map[int]int{0: 0, 1: 1, 45: 1, 90: 1, 179: 1, 180: 0, 181: -1, 270: -1, 359: -1, 360: 0, 361: 1, 540: 0, 539: 1, 541: -1, -1: -1, -179: -1, -180: 0, -181: 1, -359: 1, -360: 0} {
			if got := impl.WindSide(heading, heading+aside); got != want {
				t.Fatalf("WindSide(%d, %d): %d, want %d", heading, heading+aside, got, want)
			}
		}
	}
}

func TestLeewayFollowsItsRule(t *testing.T) {
	for _, heading := range edgeDegrees() {
		for _, from := range edgeDegrees() {
			for _, drift := range []int{0, 1, 17, impl.MaxLeeway} {
				want := leewayOf(heading, from, drift)
				if got, ok := impl.Leeway(heading, from, drift); !ok || got != want {
					t.Fatalf("Leeway(%d, %d, %d): %d %v, want %d", heading, from, drift, got, ok, want)
				}
			}
		}
	}
}

// Leeway turns away from the wind by its degrees.
func TestLeewayTurnsAwayFromTheWind(t *testing.T) {
	for heading := -60; heading < 420; heading += 3 {
		for aside := -180; aside <= 180; aside++ {
			from := heading + aside
			for _, drift := range drifts() {
				got, ok := impl.Leeway(heading, from, drift)
				if !ok || got < 0 || got > 359 {
					t.Fatalf("Leeway(%d, %d, %d): %d %v", heading, from, drift, got, ok)
				}
				away := drift
				if aside == 0 || aside == 180 || aside == -180 {
					away = 0
				}
				if impl.Between(heading, got) != away {
					t.Fatalf("Leeway(%d, %d, %d): %d does not turn by its degrees", heading, from, drift, got)
				}
				// Turned beyond what is straight away from the wind, she comes near to it again.
				off := max(aside, -aside) + away
				if impl.Between(got, from) != min(off, 360-off) {
					t.Fatalf("Leeway(%d, %d, %d): %d does not turn away from the wind", heading, from, drift, got)
				}
			}
		}
	}
}

func TestLeewayOfSmallNumbers(t *testing.T) {
	cases := [][4]int{
		{0, 45, 10, 350}, {0, 315, 10, 10}, {0, 45, 0, 0}, {0, 0, 10, 0}, {0, 180, 10, 0}, {90, 90, 30, 90}, {90, 270, 30, 90},
		// Past north from both sides.
		{5, 50, 6, 359}, {5, 50, 5, 0}, {5, 50, 4, 1}, {29, 30, impl.MaxLeeway, 359}, {0, 1, 1, 359}, {355, 310, 4, 359}, {355, 310, 5, 0}, {355, 310, 6, 1}, {359, 358, impl.MaxLeeway, 29}, {359, 300, 1, 0},
		// A degree to either side of ahead and of astern.
		{100, 101, 7, 93}, {100, 99, 7, 107}, {100, 279, 7, 93}, {100, 281, 7, 107}, {350, 171, 20, 10}, {350, 169, 20, 330},
		{360, 45, 10, 350}, {-360, -45, 10, 10}, {-1, 90, 1, 358}, {-1, -90, 1, 0}, {720, 360, 30, 0}, {3605, 90, 6, 359},
	}
	for _, c := range cases {
		if got, ok := impl.Leeway(c[0], c[1], c[2]); !ok || got != c[3] {
			t.Errorf("Leeway(%d, %d, %d): %d %v, want %d", c[0], c[1], c[2], got, ok, c[3])
		}
	}
}

func TestLeewayAtTheEndsOfInt(t *testing.T) {
	for more := range 40 {
		for _, drift := range drifts() {
			for _, aside := range []int{45, 200, 0, 180} {
				for _, c := range [][2]int{{math.MinInt + more, math.MinInt + more + aside}, {math.MaxInt - more, math.MaxInt - more - aside}} {
					want := leewayOf(c[0], c[1], drift)
					if got, ok := impl.Leeway(c[0], c[1], drift); !ok || got != want {
						t.Fatalf("Leeway(%d, %d, %d): %d %v, want %d", c[0], c[1], drift, got, ok, want)
					}
				}
			}
		}
	}
}

func TestLeewayOfDriftsThatAreNotValid(t *testing.T) {
	for _, drift := range brokenDrifts() {
		for _, heading := range edgeDegrees() {
			for _, from := range []int{heading, 0, 45, 270, math.MinInt, math.MaxInt} {
				if got, ok := impl.Leeway(heading, from, drift); ok || got != 0 {
					t.Fatalf("Leeway(%d, %d, %d): %d %v", heading, from, drift, got, ok)
				}
			}
		}
	}
}
