package tests

import (
	"math"
	"testing"

	"loop.example/g03321/impl"
)

// slackAt reports whether there is a stream at a time, and the amounts of both of its parts are at
// most `most`.
func slackAt(tide impl.Tide, pos complex128, time int, most float32) bool {
	v, ok := impl.StreamAt(tide, pos, time)
	return ok && real(v) <= most && -real(v) <= most && imag(v) <= most && -imag(v) <= most
}

// slackOf follows the rule for SlackFrom.
func slackOf(tide impl.Tide, pos complex128, time int, most float32) (int, bool) {
	for k := 0; k <= 720; k++ {
		if slackAt(tide, pos, time+60*k, most) {
			return time + 60*k, true
		}
	}
	return 0, false
}

// oneSlack returns a tide with one high water, in which the stream is v, and 0 in the last hour from
// six hours behind high water on.
func oneSlack(high int, v complex64) impl.Tide {
	flow := steadyFlow(v)
	flow[12] = 0
	return impl.Tide{Stations: []impl.Station{{Flow: flow}}, Highs: []int{high}}
}

func TestFirstSlackWaterIsTheFirst(t *testing.T) {
	tides := goodTides()
	d, once, later, none := dice(18), 0, 0, 0
	for range 600 {
		tide := tides[d.upTo(len(tides))]
		if d.upTo(2) == 0 {
			tide = channel()
		}
		positions, times := positionsOf(tide), timesOf(tide)
		pos, time, most := positions[d.upTo(len(positions))], times[d.upTo(len(times))]-d.upTo(2)*d.upTo(50000), float32(math.Ldexp(1, d.upTo(10)-4))
		want, fine := slackOf(tide, pos, time, most)
		got, ok := impl.SlackFrom(tide, pos, time, most)
		if got != want || ok != fine {
			t.Fatalf("SlackFrom(%v, %v, %d, %v): %d %v, want %d %v", tide, pos, time, most, got, ok, want, fine)
		}
		if ok && (!slackAt(tide, pos, got, most) || got-60 >= time && slackAt(tide, pos, got-60, most)) {
			t.Fatalf("SlackFrom(%v, %v, %d, %v): %d is not the first slack water", tide, pos, time, most, got)
		}
		switch {
		case !ok:
			none++
		case got == time:
			once++
		default:
			later++
		}
	}
	if once < 50 || later < 50 || none < 50 {
		t.Error("only few are slack at once, are slack later, or are not:", once, later, none)
	}
}

func TestSlackWaterOfOrdinaryWaters(t *testing.T) {
	cases := []struct {
		pos        complex128
		time, want int
	}{
		// Slack at once, and then not until the stream has come down to 0.3 again, six hours behind high
		// water.
		{0, 20000, 20000}, {0, 20060, 20060}, {0, 22000, 22000}, {0, 23000, 41600}, {0, 23001, 41601}, {0, 23059, 41659}, {100 - 100i, 60000, 64200},
		// The same waters, but less stream.
		{4000 + 500i, 23000, 23000}, {4000 + 500i, 24500, 40100},
	}
	for _, c := range cases {
		if got, ok := impl.SlackFrom(channel(), c.pos, c.time, 0.3); !ok || got != c.want {
			t.Errorf("at %v, from %d: %d %v, want %d", c.pos, c.time, got, ok, c.want)
		}
	}
}

func TestSlackWaterAtTheEdgesOfItsTimes(t *testing.T) {
	const high = 50000
	const from = high - sixHours
	for _, v := range []complex64{2, -2, 2i, -2i, 2 + 2i, 2 - 2i, -2 + 2i, -2 - 2i, 100, -100i} {
		tide := oneSlack(high, v)
		cases := []struct {
			time, want int
			ok         bool
		}{
			{from, high + sixHours, true}, {from + 1, high + sixHours + 1, true}, {from + 60, high + sixHours, true}, {from + 59, high + sixHours + 59, true},
			{from - 1, 0, false}, {from - 59, 0, false}, {from - 60, 0, false}, {0, 0, false},
			{high + sixHours, high + sixHours, true}, {high + sixHours - 1, high + sixHours + 59, true}, {high + sixHours - 60, high + sixHours, true}, {impl.MaxTime, impl.MaxTime, true},
		}
		for _, c := range cases {
			if got, ok := impl.SlackFrom(tide, 0, c.time, 0); got != c.want || ok != c.ok {
				t.Errorf("%v, from %d: %d %v, want %d %v", v, c.time, got, ok, c.want, c.ok)
			}
		}
	}
}

func TestSlackWaterAtMaxTime(t *testing.T) {
	const last = impl.MaxTime
	tide := oneSlack(last-sixHours, 3)
	cases := map[int]bool{last: true, last - 60: true, last - 120: true, last - 720*60: true, last - 721*60: false, last - 1: false, last - 59: false, last - 61: false, last - 719*60 - 1: false, last - 720*60 - 1: false}
	for time, want := range cases {
		if got, ok := impl.SlackFrom(tide, 0, time, 0); ok != want || ok && got != last || !ok && got != 0 {
			t.Errorf("from %d: %d %v", time, got, ok)
		}
	}
	// Where the times pass MaxTime there is no stream, though it would be slack.
	tide = oneSlack(last-sixHours+1, 3)
	for _, time := range []int{last, last - 1, last - 60, last - 720*60} {
		if got, ok := impl.SlackFrom(tide, 0, time, 0); ok || got != 0 {
			t.Errorf("slack a second behind MaxTime, from %d: %d %v", time, got, ok)
		}
	}
}

// A time less than 0 has no stream; but those behind it may have one.
func TestSlackWaterFromTimesLessThanZero(t *testing.T) {
	still := impl.Tide{Stations: []impl.Station{{}}, Highs: []int{0}}
	cases := []struct {
		time, want int
		ok         bool
	}{
		{0, 0, true}, {-1, 59, true}, {-59, 1, true}, {-60, 0, true}, {-61, 59, true}, {-43200, 0, true}, {-43199, 1, true}, {-43201, 0, false}, {-43260, 0, false}, {-impl.MaxTime, 0, false},
		{math.MinInt, 0, false}, {math.MinInt + 1, 0, false}, {math.MaxInt, 0, false}, {math.MaxInt - 59, 0, false}, {math.MaxInt - 43200, 0, false}, {math.MaxInt - 43199, 0, false},
		{impl.MaxTime, impl.MaxTime, true}, {impl.MaxTime + 1, 0, false}, {1 << 32, 0, false}, {1<<32 - 60, 0, false}, {-1 << 32, 0, false},
	}
	for _, c := range cases {
		if got, ok := impl.SlackFrom(still, 0, c.time, 0); got != c.want || ok != c.ok {
			t.Errorf("from %d: %d %v, want %d %v", c.time, got, ok, c.want, c.ok)
		}
	}
	if got, ok := impl.SlackFrom(oneSlack(0, 1), 0, -60, 0); !ok || got != sixHours {
		t.Error("slack six hours behind 0:", got, ok)
	}
}

func TestSlackWaterUpToAnAmount(t *testing.T) {
	inf, nan, z := float32(math.Inf(1)), float32(math.NaN()), float32(negativeZero)
	least := float32(math.SmallestNonzeroFloat32)
	cases := []struct {
		v    complex64
		most float32
		want bool
	}{
		{0, 0, true}, {0, z, true}, {complex(z, z), 0, true}, {complex(z, 0), z, true}, {0, -least, false}, {0, -1, false}, {0, -inf, false}, {0, nan, false}, {0, inf, true}, {0, math.MaxFloat32, true},
		{complex(least, 0), 0, false}, {complex(0, -least), 0, false}, {complex(least, -least), least, true}, {complex(0, least), z, false},
		{100 - 100i, 100, true}, {100, prior(100), false}, {-100i, prior(100), false}, {100, inf, true}, {-100 - 100i, nan, false}, {3, -3, false}, {-3, -3, false}, {-3, 3, true}, {-3i, -inf, false},
		{3 + 4i, 5, true}, {3 + 4i, 4, true}, {3 + 4i, prior(4), false}, {3 + 4i, 3.5, false}, {4 + 3i, 3.5, false}, {-3 - 4i, 4, true}, {-3 - 4i, 3.5, false}, {-4 - 3i, 3.5, false}, {0.5 + 0.5i, 0.5, true},
	}
	for _, v := range append(wildWinds(60), edgeWinds()...) {
		exactly := max(real(v), -real(v), imag(v), -imag(v))
		for _, most := range []float32{prior(exactly), exactly, next(exactly)} {
			cases = append(cases, struct {
				v    complex64
				most float32
				want bool
			}{v, most, most >= exactly})
		}
	}
	for _, c := range cases {
		tide := impl.Tide{Stations: []impl.Station{{Flow: steadyFlow(c.v)}}, Highs: []int{0}}
		if got, ok := impl.SlackFrom(tide, 0, 500, c.most); ok != c.want || ok && got != 500 || !ok && got != 0 {
			t.Errorf("%v, at most %v: %d %v", c.v, c.most, got, ok)
		}
	}
}

// With exactly the amount of a stream between two hours the water is slack then, with the next
// smaller single a minute later.
func TestSlackWaterExactlyAtAStream(t *testing.T) {
	tide := oneSlack(50000, 2)
	for minute := 1; minute < 60; minute++ {
		time := 50000 + 5*impl.Hour + 60*minute
		v, ok := impl.StreamAt(tide, 0, time)
		first, fine := impl.SlackFrom(tide, 0, 50000, real(v))
		second, good := impl.SlackFrom(tide, 0, 50000, prior(real(v)))
		if !ok || !fine || !good || first != time || second != time+60 {
			t.Errorf("minute %d, stream %v: %d %v, and %d %v", minute, v, first, fine, second, good)
		}
	}
}

func TestSlackWaterIsThatOfTheNearStation(t *testing.T) {
	tide := oneSlack(50000, 2)
	tide.Stations = append(tide.Stations, impl.Station{At: 1000}, impl.Station{At: -1000, Flow: steadyFlow(1)})
	cases := []struct {
		pos  complex128
		want int
		ok   bool
	}{
		{0, 71600, true}, {499, 71600, true}, {500, 71600, true}, {501, 50000, true}, {1e8, 50000, true}, {-500, 71600, true}, {-501, 0, false}, {-1e8i, 71600, true},
	}
	for _, c := range cases {
		if got, ok := impl.SlackFrom(tide, c.pos, 50000, 0); got != c.want || ok != c.ok {
			t.Errorf("at %v: %d %v, want %d %v", c.pos, got, ok, c.want, c.ok)
		}
	}
}

func TestSlackWaterOfWhatIsNotValid(t *testing.T) {
	refuse := func(name string, tide impl.Tide, pos complex128, time int) {
		t.Helper()
		if got, ok := impl.SlackFrom(tide, pos, time, impl.MaxSpeed); ok || got != 0 {
			t.Fatalf("%s, position %v, from %d: %d %v", name, pos, time, got, ok)
		}
	}
	for name, tide := range brokenTides() {
		refuse(name, tide, 0, 50000)
	}
	for _, pos := range brokenVectors() {
		refuse("ordinary waters", channel(), pos, 0)
		refuse("ordinary waters", channel(), pos, 64700)
	}
	for _, tide := range goodTides() {
		for _, time := range []int{-43201, -impl.MaxTime, math.MinInt, impl.MaxTime + 1, math.MaxInt, math.MaxInt - 43200} {
			refuse("a valid tide", tide, 0, time)
		}
	}
}
