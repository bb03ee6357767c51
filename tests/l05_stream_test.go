package tests

import (
	"math"
	"testing"

	"loop.example/g03321/impl"
)

// edgeOffsets returns offsets about whole hours, about the first and the last one of them, and at
// the ends of int.
func edgeOffsets() []int {
	list := []int{math.MinInt, math.MinInt + 1, math.MinInt + sixHours, math.MaxInt, math.MaxInt - 1, math.MaxInt - sixHours, 1 << 32, -1 << 32, 1<<32 + 1800, impl.MaxTime, -impl.MaxTime}
	for h := -8; h <= 8; h++ {
		for d := -2; d <= 2; d++ {
			list = append(list, h*impl.Hour+d)
		}
		list = append(list, h*impl.Hour+1800, h*impl.Hour+1799, h*impl.Hour+1200, h*impl.Hour+3000)
	}
	return list
}

// flowOf follows the rule for FlowAt.
func flowOf(flow [13]complex64, offset int) complex64 {
	h := 0
	for offset >= (h-5)*impl.Hour && h < 12 {
		h++
	}
	rest := offset - (h-6)*impl.Hour
	if offset <= -sixHours || h == 12 || rest == 0 {
		return flow[h]
	}
	q := over32(float32(rest), impl.Hour)
	return complex(partWay(real(flow[h]), real(flow[h+1]), q), partWay(imag(flow[h]), imag(flow[h+1]), q))
}

// goodFlows returns flows of valid velocities of all kinds.
func goodFlows() [][13]complex64 {
	list := [][13]complex64{channelFlow(), turnedFlow(channelFlow(), 3), steadyFlow(0), steadyFlow(100 - 100i)}
	for _, v := range edgeWinds() {
		list = append(list, steadyFlow(v))
	}
	d := dice(14)
	for _, winds := range [][]complex64{edgeWinds(), wildWinds(500), eighthWinds(300)} {
		for range 40 {
			list = append(list, wildFlow(&d, winds))
		}
	}
	return list
}

// At whole hours, up to six from high water, a stream is that of its table; beyond it stays.
func TestFlowAtWholeHoursIsThatOfItsTable(t *testing.T) {
	for _, flow := range goodFlows() {
		s := impl.Station{At: 1, Flow: flow}
		for h := -6; h <= 6; h++ {
			if got, ok := impl.FlowAt(s, h*impl.Hour); !ok || !sameWind(got, flow[h+6]) {
				t.Fatalf("%d hours: %v %v, want %v", h, got, ok, flow[h+6])
			}
		}
		for _, more := range []int{1, 2, 1800, 3599, 3600, 3601, 36000, impl.MaxTime, 1 << 32, math.MaxInt - sixHours} {
			if got, ok := impl.FlowAt(s, sixHours+more); !ok || !sameWind(got, flow[12]) {
				t.Fatalf("%d beyond: %v %v, want %v", more, got, ok, flow[12])
			}
			if got, ok := impl.FlowAt(s, -sixHours-more); !ok || !sameWind(got, flow[0]) {
				t.Fatalf("%d before: %v %v, want %v", more, got, ok, flow[0])
			}
		}
		if got, ok := impl.FlowAt(s, math.MinInt); !ok || !sameWind(got, flow[0]) {
			t.Fatalf("at the least int: %v %v, want %v", got, ok, flow[0])
		}
	}
}

func TestFlowAtFollowsItsRule(t *testing.T) {
	d, offsets := dice(15), edgeOffsets()
	for range 60 {
		offsets = append(offsets, d.upTo(2*sixHours+1)-sixHours)
	}
	for _, flow := range goodFlows() {
		for _, offset := range offsets {
			want := flowOf(flow, offset)
			if got, ok := impl.FlowAt(impl.Station{Flow: flow}, offset); !ok || !sameWind(got, want) {
				t.Fatalf("FlowAt(%v, %d): %v %v, want %v", flow, offset, got, ok, want)
			}
		}
	}
}

// What would come out without a step that is rounded by itself differs from what must come out.
func TestFlowAtRoundsEachStep(t *testing.T) {
	d := dice(16)
	winds := append(wildWinds(500), eighthWinds(100)...)
	var differs, fused, share, wide int
	for range 3000 {
		flow := wildFlow(&d, winds)
		h, rest := d.upTo(12), 1+d.upTo(3599)
		got, ok := impl.FlowAt(impl.Station{Flow: flow}, (h-6)*impl.Hour+rest)
		s, r := imag(flow[h]), imag(flow[h+1])
		difference, q := minus32(r, s), over32(float32(rest), impl.Hour)
		want := plus32(s, times32(difference, q))
		if !ok || !sameSingle(imag(got), want) {
			t.Fatalf("from %v to %v, at %d: %v %v, want %v", s, r, rest, got, ok, want)
		}
		s64, exact := float64(s), float64(rest)/3600
		if float32(s64+(float64(r)-s64)*float64(q)) != float32(s64+float64(difference)*float64(q)) {
			differs++
		}
		if float32(s64+float64(difference)*float64(q)) != want {
			fused++
		}
		if plus32(s, float32(float64(difference)*exact)) != want {
			share++
		}
		if float32(s64+(float64(r)-s64)*exact) != want {
			wide++
		}
	}
	if differs < 50 || fused < 50 || share < 50 || wide < 50 {
		t.Error("only few results show whether each step is rounded:", differs, fused, share, wide)
	}
}

func TestFlowAtOfSmallNumbers(t *testing.T) {
	z, least := float32(negativeZero), float32(math.SmallestNonzeroFloat32)
	flow := [13]complex64{complex(z, z), complex(z, z), 2, 4i, 4i, 8 - 8i, 8 - 8i, -8 + 8i, 100, -100, complex(least, 0), complex(-least, z), complex(z, 3)}
	cases := map[int]complex64{
		-sixHours: complex(z, z), -sixHours - 1: complex(z, z),
		// A sum of 0 and -0 is 0.
		-sixHours + 1: 0, -5*impl.Hour - 1: 0, -5 * impl.Hour: complex(z, z),
		-4*impl.Hour - 1800: 1, -4 * impl.Hour: 2, -4*impl.Hour + 900: 1.5 + 1i, -3*impl.Hour - 900: 0.5 + 3i, -3 * impl.Hour: 4i, -3*impl.Hour + 1: 4i, -2*impl.Hour - 1: 4i,
		-2*impl.Hour + 1800: 4 - 2i, -2*impl.Hour + 2700: 6 - 5i, 0: 8 - 8i, -1: 8 - 8i, 900: 4 - 4i, 1800: 0, 2700: -4 + 4i, impl.Hour: -8 + 8i,
		2*impl.Hour + 1800: 0, 2*impl.Hour + 900: 50, 3*impl.Hour - 900: -50, 3 * impl.Hour: -100, 4 * impl.Hour: complex(least, 0), 5 * impl.Hour: complex(-least, z), 5*impl.Hour + 1200: complex(-least, 1),
		// Half of the least single is rounded to 0, one and a half to twice that single.
		4*impl.Hour + 900: complex(least, 0), 4*impl.Hour + 1800: 0, 4*impl.Hour + 2700: complex(-least, 0), sixHours: complex(z, 3), sixHours + 1: complex(z, 3),
	}
	for offset, want := range cases {
		if got, ok := impl.FlowAt(impl.Station{Flow: flow}, offset); !ok || !sameWind(got, want) {
			t.Errorf("at %d: %v %v, want %v", offset, got, ok, want)
		}
	}
}

func TestFlowAtOfWhatIsNotValid(t *testing.T) {
	for _, bad := range brokenWinds() {
		for h := range 13 {
			flow := channelFlow()
			flow[h] = bad
			for _, offset := range []int{(h - 6) * impl.Hour, (h-6)*impl.Hour + 1, 0, 1800, -sixHours, sixHours, math.MinInt, math.MaxInt, (6 - h) * impl.Hour, (6-h)*impl.Hour - 1800} {
				if got, ok := impl.FlowAt(impl.Station{Flow: flow}, offset); ok || !sameWind(got, 0) {
					t.Fatalf("%v at the hour %d, offset %d: %v %v", bad, h-6, offset, got, ok)
				}
			}
		}
	}
	// Where the station is, is no matter of the flow.
	for _, at := range brokenVectors() {
		if got, ok := impl.FlowAt(impl.Station{At: at, Flow: steadyFlow(2i)}, 1800); !ok || got != 2i {
			t.Errorf("a station at %v: %v %v", at, got, ok)
		}
	}
}

func TestStreamAtFollowsItsRule(t *testing.T) {
	streams, d := map[complex64]int{}, dice(17)
	for _, tide := range goodTides() {
		given := copyOfTide(tide)
		positions, times := positionsOf(tide), timesOf(tide)
		for range 300 {
			pos, time := positions[d.upTo(len(positions))], times[d.upTo(len(times))]
			want := flowOf(tide.Stations[stationOf(tide, pos)].Flow, time-tide.Highs[highOf(tide.Highs, time)])
			if got, ok := impl.StreamAt(tide, pos, time); !ok || !sameWind(got, want) {
				t.Fatalf("StreamAt(%v, %v, %d): %v %v, want %v", tide, pos, time, got, ok, want)
			}
			streams[want]++
		}
		if !sameTide(tide, given) {
			t.Fatalf("%v has become %v", given, tide)
		}
	}
	if len(streams) < 2000 {
		t.Error("only few streams:", len(streams))
	}
}

func TestStreamAtWholeHoursFromHighWater(t *testing.T) {
	tide := channel()
	tide.Highs = []int{50000, 200000}
	for i, s := range tide.Stations {
		for _, high := range tide.Highs {
			for h := -6; h <= 6; h++ {
				if got, ok := impl.StreamAt(tide, s.At, high+h*impl.Hour); !ok || !sameWind(got, s.Flow[h+6]) {
					t.Errorf("station %d, %d hours from %d: %v %v", i, h, high, got, ok)
				}
			}
		}
		for time, want := range map[int]complex64{0: s.Flow[0], 28399: s.Flow[0], 71601: s.Flow[12], 125000: s.Flow[12], 125001: s.Flow[0], 178399: s.Flow[0], 221601: s.Flow[12], impl.MaxTime: s.Flow[12]} {
			if got, ok := impl.StreamAt(tide, s.At, time); !ok || !sameWind(got, want) {
				t.Errorf("station %d, at %d: %v %v, want %v", i, time, got, ok, want)
			}
		}
	}
	// Half between two high waters six hours apart the one gives way to the other.
	near := impl.Tide{Stations: []impl.Station{{Flow: channelFlow()}}, Highs: []int{0, sixHours}}
	for time, hour := range map[int]int{0: 6, 7200: 8, 10800: 9, 14400: 4, 21600: 6, 43200: 12} {
		if got, ok := impl.StreamAt(near, 0, time); !ok || !sameWind(got, channelFlow()[hour]) {
			t.Errorf("at %d: %v %v", time, got, ok)
		}
	}
}

func TestStreamAtOfWhatIsNotValid(t *testing.T) {
	refuse := func(name string, tide impl.Tide, pos complex128, time int) {
		t.Helper()
		if got, ok := impl.StreamAt(tide, pos, time); ok || !sameWind(got, 0) {
			t.Errorf("%s, position %v, time %d: %v %v", name, pos, time, got, ok)
		}
	}
	for name, tide := range brokenTides() {
		refuse(name, tide, 0, 0)
		refuse(name, tide, 1000-500i, 50000)
	}
	for _, pos := range brokenVectors() {
		refuse("ordinary waters", channel(), pos, 0)
		refuse("ordinary waters", channel(), pos, 64700)
	}
	for _, tide := range goodTides() {
		for _, time := range brokenTimes() {
			refuse("a valid tide", tide, 0, time)
		}
	}
}
