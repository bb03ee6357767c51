package tests

import (
	"fmt"
	"math"
	"slices"
	"testing"

	"loop.example/g03321/impl"
)

// sixHours is for how long the water changes before and behind high water.
const sixHours = 6 * impl.Hour

// sameStation reports whether two stations are the same.
func sameStation(a, b impl.Station) bool {
	return sameComplex(a.At, b.At) && slices.EqualFunc(a.Flow[:], b.Flow[:], sameWind)
}

// sameTide reports whether two tides are the same.
func sameTide(a, b impl.Tide) bool {
	return slices.EqualFunc(a.Stations, b.Stations, sameStation) && slices.Equal(a.Highs, b.Highs)
}

// copyOfTide returns a tide that shares no list with the given one.
func copyOfTide(tide impl.Tide) impl.Tide {
	return impl.Tide{Stations: slices.Clone(tide.Stations), Highs: slices.Clone(tide.Highs)}
}

// channelFlow returns the flow of an ordinary water, that comes from the west and goes back there.
func channelFlow() [13]complex64 {
	return [13]complex64{
		-0.1 - 0.3i, 0.1i, 0.1 + 0.6i, 0.15 + 1.1i, 0.2 + 1.3i, 0.1 + 0.9i, 0.2i,
		-0.1 - 0.5i, -0.2 - 1.1i, -0.2 - 1.2i, -0.1 - 0.9i, -0.05 - 0.6i, -0.1 - 0.3i,
	}
}

// turnedFlow returns a flow whose velocities are those of another one, to the other side and by a
// share stronger.
func turnedFlow(flow [13]complex64, share float32) [13]complex64 {
	for h, v := range flow {
		flow[h] = complex(-share*real(v), -share*imag(v))
	}
	return flow
}

// channel returns the tide of ordinary waters over two days.
func channel() impl.Tide {
	return impl.Tide{
		Stations: []impl.Station{
			{At: 0, Flow: channelFlow()},
			{At: 4000 + 500i, Flow: turnedFlow(channelFlow(), 0.7)},
			{At: -3000 + 9000i, Flow: turnedFlow(channelFlow(), -1.9)},
		},
		Highs: []int{20000, 64700, 109500, 154100},
	}
}

// steadyFlow returns a flow that is always v.
func steadyFlow(v complex64) [13]complex64 {
	var flow [13]complex64
	for h := range flow {
		flow[h] = v
	}
	return flow
}

// stationsAt returns stations at the given places, each with a flow of its own.
func stationsAt(places ...complex128) []impl.Station {
	var list []impl.Station
	for i, at := range places {
		list = append(list, impl.Station{At: at, Flow: steadyFlow(complex(float32(i), 1))})
	}
	return list
}

// stations returns n stations in a row.
func stations(n int) []impl.Station {
	places := make([]complex128, n)
	for i := range places {
		places[i] = complex(1000*float64(i), -500)
	}
	return stationsAt(places...)
}

// highsFrom returns n high waters, of which the first one is at a time and each later one by a span
// behind the one before it.
func highsFrom(first, span, n int) []int {
	var highs []int
	for i := range n {
		highs = append(highs, first+i*span)
	}
	return highs
}

// evenHighs returns n high waters from 0 on, the last one at MaxTime if there are two at least.
func evenHighs(n int) []int {
	var highs []int
	for i := range n {
		highs = append(highs, i*impl.MaxTime/max(1, n-1))
	}
	return highs
}

// wildFlow returns a flow of velocities of all kinds.
func wildFlow(d *dice, winds []complex64) [13]complex64 {
	var flow [13]complex64
	for h := range flow {
		flow[h] = winds[d.upTo(len(winds))]
	}
	return flow
}

// wildTide returns a valid tide whose numbers look random.
func wildTide(d *dice, nStations, nHighs int) impl.Tide {
	winds := append(append(wildWinds(300), edgeWinds()...), eighthWinds(100)...)
	places := append(wildVectors(100), edgeVectors()...)
	var tide impl.Tide
	for range nStations {
		tide.Stations = append(tide.Stations, impl.Station{At: places[d.upTo(len(places))], Flow: wildFlow(d, winds)})
	}
	time := d.upTo(100000)
	for range nHighs {
		tide.Highs = append(tide.Highs, time)
		time += sixHours + d.upTo(3)*d.upTo(70000)
	}
	return tide
}

// edgeTides returns valid tides at the edges.
func edgeTides() []impl.Tide {
	var list []impl.Tide
	for _, highs := range [][]int{
		{0}, {impl.MaxTime}, {0, impl.MaxTime}, {1}, {0, sixHours}, {0, sixHours, 2*sixHours + 1}, {impl.MaxTime - sixHours, impl.MaxTime},
		evenHighs(impl.MaxHighs), highsFrom(0, sixHours, impl.MaxHighs), highsFrom(impl.MaxTime-(impl.MaxHighs-1)*sixHours, sixHours, impl.MaxHighs),
	} {
		for _, n := range []int{1, 2, impl.MaxStations} {
			list = append(list, impl.Tide{Stations: stations(n), Highs: highs})
		}
	}
	for i, at := range edgeVectors() {
		winds := edgeWinds()
		v := winds[i%len(winds)]
		list = append(list, impl.Tide{Stations: []impl.Station{{At: at, Flow: steadyFlow(v)}, {At: at}}, Highs: []int{9000}})
	}
	return list
}

// goodTides returns valid tides of all kinds.
func goodTides() []impl.Tide {
	list := append(edgeTides(), channel())
	d := dice(12)
	for _, nStations := range []int{1, 2, 3, 7, impl.MaxStations} {
		for _, nHighs := range []int{1, 2, 3, 20, impl.MaxHighs} {
			list = append(list, wildTide(&d, nStations, nHighs))
		}
	}
	return list
}

// brokenStations puts lists that cannot be Stations into tides that would be valid otherwise.
func brokenStations(list map[string]impl.Tide) {
	put := func(name string, stations []impl.Station) {
		list["stations "+name] = impl.Tide{Stations: stations, Highs: channel().Highs}
	}
	put("none", nil)
	put("an empty list", []impl.Station{})
	put("too many", stations(impl.MaxStations+1))
	put("a thousand", stations(1000))
	for i, bad := range brokenVectors() {
		for _, n := range []int{1, 3, impl.MaxStations} {
			broken := stations(n)
			broken[(i*7+n)%n].At = bad
			put(fmt.Sprint(bad, " as the place of one of ", n), broken)
		}
	}
	for i, bad := range brokenWinds() {
		for h := range 13 {
			n := 1 + (i+h)%impl.MaxStations
			broken := stations(n)
			broken[(i*7+h)%n].Flow[h] = bad
			put(fmt.Sprint(bad, " in a flow at ", h, " of one of ", n), broken)
		}
	}
	broken := stations(2)
	broken[0].Flow, broken[1].Flow = steadyFlow(complex(0, next(impl.MaxSpeed))), steadyFlow(complex(float32(math.NaN()), 0))
	put("nothing but bad flows", broken)
}

// brokenHighs does the same with Highs.
func brokenHighs(list map[string]impl.Tide) {
	put := func(name string, highs ...int) { list["highs "+name] = impl.Tide{Stations: stations(2), Highs: highs} }
	put("none")
	list["highs an empty list"] = impl.Tide{Stations: stations(2), Highs: []int{}}
	put("too many", highsFrom(0, sixHours, impl.MaxHighs+1)...)
	put("a thousand", highsFrom(0, sixHours, 1000)...)
	for _, bad := range []int{-1, -sixHours, impl.MaxTime + 1, 2 * impl.MaxTime, 1 << 32, 1<<32 + 50000, math.MinInt, math.MinInt + 40000, math.MaxInt} {
		put(fmt.Sprint(bad, " alone"), bad)
		put(fmt.Sprint(bad, " first"), bad, 100000, 200000)
		put(fmt.Sprint(bad, " in the middle"), 50000, bad, 200000)
		put(fmt.Sprint(bad, " last"), 50000, 100000, bad)
		put(fmt.Sprint(bad, " twice"), bad, bad)
	}
	put("the ends of int", math.MinInt, math.MaxInt)
	put("the ends of int, descending", math.MaxInt, math.MinInt)
	put("equal", 50000, 50000)
	put("equal at 0", 0, 0)
	put("descending", 50000, 20000)
	put("descending by six hours", 50000, 50000-sixHours)
	put("descending behind others", 0, 50000, 100000, 50000)
	put("a second too near", 0, sixHours-1)
	put("a second too near at the start", 100, 100+sixHours-1, 100+3*sixHours)
	put("a second too near in the middle", 0, sixHours, 2*sixHours-1, 4*sixHours)
	put("a second too near at the end", impl.MaxTime-3*sixHours, impl.MaxTime-sixHours+1, impl.MaxTime)
	crowded := evenHighs(impl.MaxHighs)
	crowded[impl.MaxHighs-2] = impl.MaxTime - 10
	put("too near behind many", crowded...)
}

// brokenTides returns tides that are not valid, by what they lack.
func brokenTides() map[string]impl.Tide {
	list := map[string]impl.Tide{"no lists": {}, "empty lists": {Stations: []impl.Station{}, Highs: []int{}}}
	brokenStations(list)
	brokenHighs(list)
	return list
}

// brokenTimes returns times that are not in the range 0 to MaxTime.
func brokenTimes() []int {
	return []int{-1, -60, -impl.Hour, impl.MaxTime + 1, impl.MaxTime + 60, 2 * impl.MaxTime, 1 << 32, 1<<32 + 5000, -1 << 32, math.MinInt, math.MinInt + 5000, math.MaxInt}
}

func TestLimitsOfTides(t *testing.T) {
	if impl.MaxStations != 20 || impl.MaxHighs != 60 || impl.MaxTime != 10000000 || impl.Hour != 3600 {
		t.Error("limits:", impl.MaxStations, impl.MaxHighs, impl.MaxTime, impl.Hour)
	}
}

func TestTideOkAtItsEdges(t *testing.T) {
	for _, tide := range goodTides() {
		given := copyOfTide(tide)
		if !impl.TideOk(tide) || !sameTide(tide, given) {
			t.Errorf("not valid, or changed: %v", given)
		}
	}
	for n := 1; n <= impl.MaxStations; n++ {
		if !impl.TideOk(impl.Tide{Stations: stations(n), Highs: []int{0}}) {
			t.Errorf("%d stations", n)
		}
	}
	for n := 1; n <= impl.MaxHighs; n++ {
		if !impl.TideOk(impl.Tide{Stations: stations(1), Highs: evenHighs(n)}) {
			t.Errorf("%d high waters", n)
		}
	}
	for name, tide := range brokenTides() {
		given := copyOfTide(tide)
		if impl.TideOk(tide) || !sameTide(tide, given) {
			t.Errorf("valid, or changed: %s", name)
		}
	}
}

// timesOf returns times at which a tide can be asked: those of its high waters, those half between
// two of them, those about whole hours from them, all with the seconds before and behind, the first
// and the last one, and some in between.
func timesOf(tide impl.Tide) []int {
	list := []int{0, 1, impl.MaxTime - 1, impl.MaxTime}
	for i, high := range tide.Highs {
		middle := (high + tide.Highs[max(0, i-1)]) / 2
		for d := -2; d <= 2; d++ {
			list = append(list, high+d, middle+d, high+d+sixHours, high+d-sixHours, high+d+(i%13-6)*impl.Hour)
		}
	}
	d := dice(13)
	for range 40 {
		list = append(list, d.upTo(impl.MaxTime+1), d.upTo(200000))
	}
	return slices.DeleteFunc(list, func(time int) bool { return time < 0 || time > impl.MaxTime })
}

// highOf follows the rule for HighAt.
func highOf(highs []int, time int) int {
	away := func(i int) int { return max(time-highs[i], highs[i]-time) }
	best := len(highs) - 1
	for i := best; i >= 0; i-- {
		if away(i) <= away(best) {
			best = i
		}
	}
	return best
}

func TestNoHighWaterIsNearer(t *testing.T) {
	for _, tide := range goodTides() {
		given := copyOfTide(tide)
		for _, time := range timesOf(tide) {
			got := impl.HighAt(tide, time)
			if want := highOf(tide.Highs, time); got != want {
				t.Fatalf("HighAt %d of %v: %d, want %d", time, tide.Highs, got, want)
			}
			for _, high := range tide.Highs {
				if told := tide.Highs[got]; max(high-time, time-high) < max(told-time, time-told) {
					t.Fatalf("at %d, %d is told, but %d is nearer", time, told, high)
				}
			}
		}
		if !sameTide(tide, given) {
			t.Fatalf("%v has become %v", given, tide)
		}
	}
}

func TestHighAtOfSomeTimes(t *testing.T) {
	cases := []struct {
		highs []int
		times map[int]int
	}{
		{[]int{30000, 60000, 90001}, map[int]int{0: 0, 29999: 0, 30000: 0, 30001: 0, 44999: 0, 45000: 0, 45001: 1, 60000: 1, 75000: 1, 75001: 2, 90001: 2, 90002: 2, impl.MaxTime: 2}},
		{[]int{0, sixHours}, map[int]int{0: 0, 10799: 0, 10800: 0, 10801: 1, 21600: 1, impl.MaxTime: 1}},
		{[]int{0, impl.MaxTime}, map[int]int{0: 0, 4999999: 0, 5000000: 0, 5000001: 1, impl.MaxTime - 1: 1, impl.MaxTime: 1}},
		{[]int{0, impl.MaxTime - 1}, map[int]int{4999999: 0, 5000000: 1}},
		{[]int{5000000}, map[int]int{0: 0, 4999999: 0, 5000000: 0, impl.MaxTime: 0}},
		{[]int{impl.MaxTime}, map[int]int{0: 0, impl.MaxTime: 0}},
		{highsFrom(0, sixHours, impl.MaxHighs), map[int]int{0: 0, 10800: 0, 10801: 1, 32400: 1, 32401: 2, 58*sixHours + 10800: 58, 58*sixHours + 10801: 59, 60 * sixHours: 59}},
	}
	for _, c := range cases {
		for time, want := range c.times {
			if got := impl.HighAt(impl.Tide{Stations: stations(1), Highs: c.highs}, time); got != want {
				t.Errorf("HighAt %d of %v: %d, want %d", time, c.highs, got, want)
			}
		}
	}
}

// positionsOf returns positions at and about the stations of a tide, half between two of them, at
// the edges, and elsewhere.
func positionsOf(tide impl.Tide) []complex128 {
	list := append(wildVectors(15), 0, 1e8, -1e8i, 1e8-1e8i, 1e-300, complex(negativeZero, negativeZero))
	for i, s := range tide.Stations {
		other := tide.Stations[max(0, i-1)].At
		a, b := real(s.At), imag(s.At)
		list = append(list, s.At, complex(a+1, b), complex(a, b-0.001), complex(above(a), below(b)), complex((a+real(other))/2, (b+imag(other))/2))
	}
	return slices.DeleteFunc(list, func(pos complex128) bool { return !impl.VectorOk(pos) })
}

// squareTo is Dot with itself of a place less a position, each step rounded by itself.
func squareTo(at, pos complex128) float64 {
	a, b := minus(real(at), real(pos)), minus(imag(at), imag(pos))
	return plus(times(a, a), times(b, b))
}

// stationOf follows the rule for NearStation.
func stationOf(tide impl.Tide, pos complex128) int {
	best := len(tide.Stations) - 1
	for i := best; i >= 0; i-- {
		if squareTo(tide.Stations[i].At, pos) <= squareTo(tide.Stations[best].At, pos) {
			best = i
		}
	}
	return best
}

func TestNearStationFollowsItsRule(t *testing.T) {
	seen := map[int]int{}
	for _, tide := range goodTides() {
		given := copyOfTide(tide)
		for _, pos := range positionsOf(tide) {
			want := stationOf(tide, pos)
			if got := impl.NearStation(tide, pos); got != want {
				t.Fatalf("NearStation of %v and %v: %d, want %d", tide.Stations, pos, got, want)
			}
			seen[want]++
		}
		if !sameTide(tide, given) {
			t.Fatalf("%v has become %v", given, tide)
		}
	}
	if len(seen) != impl.MaxStations {
		t.Error("not each station is near:", seen)
	}
}

func TestNearStationOfSomePlaces(t *testing.T) {
	cases := []struct {
		places []complex128
		pos    complex128
		want   int
	}{
		{[]complex128{100}, -1e8i, 0}, {[]complex128{0, 10, 20}, 12, 1}, {[]complex128{0, 10, 20}, 1e8, 2}, {[]complex128{20, 10, 0}, -5, 2}, {[]complex128{10i, 10, -10i}, -1 - 1i, 2},
		// Equally near, to either side.
		{[]complex128{-10, 10}, 0, 0}, {[]complex128{10, -10}, 0, 0}, {[]complex128{-10, 10}, 0.25, 1}, {[]complex128{-10, 10}, -0.25i, 0}, {[]complex128{99, 10, -10i, 10i, -10}, 0, 1},
		{[]complex128{3 + 4i, 5, -5i, 4 - 3i}, 0, 0}, {[]complex128{6i, 5, 3 + 4i}, 0, 1}, {[]complex128{5, 5, 5}, 5, 0}, {[]complex128{7, 5, 5}, 5, 1},
		// Equally near by roundings alone: the differences, their squares, and those that are too small.
		{[]complex128{1e-9, 2e-9}, 1e8, 0}, {[]complex128{2e-9, 1e-9}, -1e8, 0}, {[]complex128{complex(1e8, 1e-5), 1e8}, -1e8, 0}, {[]complex128{1e-200, 0}, 0, 0}, {[]complex128{3, complex(0, -1e-180), 1e-190}, 0, 1},
		// The lengths of these are 0, but not their squares; and those of these have no length.
		{[]complex128{3e-7, 2e-7, 1e-7i}, 0, 2}, {[]complex128{1e-150, 1e-160}, 0, 1}, {[]complex128{-1e8, -1, 0}, 1e8, 2}, {[]complex128{-1e8 - 1e8i, -1e8}, 1e8 + 1e8i, 1},
		// By what differs in both parts together, this one is farther away.
		{[]complex128{8 + 8i, 11}, 0, 1}, {[]complex128{-8 + 8i, -11i}, 0, 1}, {[]complex128{7 + 7i, 10}, 0, 0},
	}
	for _, c := range cases {
		if got := impl.NearStation(impl.Tide{Stations: stationsAt(c.places...), Highs: []int{0}}, c.pos); got != c.want {
			t.Errorf("NearStation of %v and %v: %d, want %d", c.places, c.pos, got, c.want)
		}
	}
}

// Both parts exchanged, the rounded squares have the same sum, but not if one of them were fused with
// it.
func TestNearStationRoundsEachSquare(t *testing.T) {
	d, fused := dice(19), 0
	for range 2000 {
		a, b := d.within(1000), d.within(1000)
		tide := impl.Tide{Stations: stationsAt(complex(a, b), complex(b, a), complex(-b, a), complex(-a, -b)), Highs: []int{0}}
		if got := impl.NearStation(tide, 0); got != 0 {
			t.Fatalf("of %v: %d", tide.Stations, got)
		}
		if math.FMA(b, b, a*a) < math.FMA(a, a, b*b) {
			fused++
		}
	}
	if fused < 50 {
		t.Error("only few show whether each square is rounded:", fused)
	}
}

func TestNearestOfWhatIsNotValid(t *testing.T) {
	for name, tide := range brokenTides() {
		for _, time := range []int{0, 50000, impl.MaxTime, -1} {
			if got := impl.HighAt(tide, time); got != -1 {
				t.Errorf("%s, time %d: %d", name, time, got)
			}
		}
		for _, pos := range []complex128{0, 1000 - 500i, 1e8, complex(math.NaN(), 0)} {
			if got := impl.NearStation(tide, pos); got != -1 {
				t.Errorf("%s, position %v: %d", name, pos, got)
			}
		}
	}
	for _, tide := range goodTides() {
		for _, time := range brokenTimes() {
			if got := impl.HighAt(tide, time); got != -1 {
				t.Errorf("time %d: %d", time, got)
			}
		}
		for _, pos := range brokenVectors() {
			if got := impl.NearStation(tide, pos); got != -1 {
				t.Errorf("position %v: %d", pos, got)
			}
		}
	}
}

// Whatever the functions write behind the elements of a list is seen in the room behind them.
func TestNothingIsWrittenIntoATide(t *testing.T) {
	room := func() impl.Tide {
		list, highs := append(channel().Stations, stations(3)...), append(channel().Highs, -7, -8, -9)
		list[4].Flow[5] = complex(float32(math.NaN()), 0)
		return impl.Tide{Stations: list, Highs: highs}
	}
	use := func(tide impl.Tide) {
		for _, time := range []int{-30, 0, 21000, 64700, 66000, 90000, 154100, impl.MaxTime} {
			for _, pos := range []complex128{0, 3900, -3000 + 8000i, complex(0, math.Inf(1))} {
				impl.TideOk(tide)
				impl.HighAt(tide, time)
				impl.NearStation(tide, pos)
				impl.StreamAt(tide, pos, time)
				impl.SlackFrom(tide, pos, time, 0.3)
				impl.SlackFrom(tide, pos, time, -1)
			}
		}
	}
	tide := room()
	use(impl.Tide{Stations: tide.Stations[:3], Highs: tide.Highs[:4]})
	if !sameTide(tide, room()) {
		t.Errorf("%v has become %v", room(), tide)
	}
	use(tide)
	if !sameTide(tide, room()) {
		t.Errorf("what is not valid, %v, has become %v", room(), tide)
	}
}
