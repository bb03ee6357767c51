package tests

import (
	"fmt"
	"math"
	"math/big"
	"slices"
	"testing"

	"loop.example/g03321/impl"
)

// over32 is the quotient of singles, rounded once as their products are.
func over32(x, y float32) float32 { return single(new(big.Float).Quo(whole(x), whole(y))) }

// samePolar reports whether two polars are the same.
func samePolar(p, q impl.Polar) bool {
	return slices.EqualFunc(p.Winds, q.Winds, sameSingle) && slices.Equal(p.Angles, q.Angles) &&
		slices.EqualFunc(p.Speeds, q.Speeds, func(a, b []float32) bool { return slices.EqualFunc(a, b, sameSingle) })
}

// copyOf returns a polar that shares no list with p.
func copyOf(p impl.Polar) impl.Polar {
	q := impl.Polar{Winds: slices.Clone(p.Winds), Angles: slices.Clone(p.Angles)}
	for _, row := range p.Speeds {
		q.Speeds = append(q.Speeds, slices.Clone(row))
	}
	return q
}

// cruiser returns the polar of an ordinary yacht.
func cruiser() impl.Polar {
	return impl.Polar{
		Winds:  []float32{3, 5, 8, 12, 16},
		Angles: []int{0, 30, 40, 52, 60, 75, 90, 110, 120, 135, 150, 165, 180},
		Speeds: [][]float32{
			{0, 0.6, 1.6, 2.1, 2.3, 2.4, 2.4, 2.3, 2.1, 1.7, 1.4, 1.2, 1.1},
			{0, 1.1, 2.5, 2.9, 3.1, 3.3, 3.3, 3.2, 3, 2.6, 2.2, 1.9, 1.8},
			{0, 1.4, 3, 3.4, 3.5, 3.7, 3.8, 3.8, 3.7, 3.5, 3.1, 2.8, 2.7},
			{0, 1.5, 3.2, 3.6, 3.8, 4, 4.2, 4.3, 4.3, 4.1, 3.8, 3.6, 3.5},
			{0, 1.3, 3.1, 3.6, 3.8, 4.1, 4.4, 4.6, 4.7, 4.7, 4.4, 4.1, 4},
		},
	}
}

// evenWinds returns n winds that ascend evenly up to MaxSpeed.
func evenWinds(n int) []float32 {
	var winds []float32
	for i := range n {
		winds = append(winds, float32(impl.MaxSpeed*(i+1))/float32(n))
	}
	return winds
}

// evenAngles returns n angles that ascend evenly from 0 to 180.
func evenAngles(n int) []int {
	var angles []int
	for i := range n {
		angles = append(angles, 180*i/(n-1))
	}
	return angles
}

// flat returns a polar in which all numbers are one speed.
func flat(winds []float32, angles []int, speed float32) impl.Polar {
	p := impl.Polar{Winds: winds, Angles: angles}
	for range winds {
		row := make([]float32, len(angles))
		for j := range row {
			row[j] = speed
		}
		p.Speeds = append(p.Speeds, row)
	}
	return p
}

// wildSpeed returns a valid speed of any kind.
func wildSpeed(d *dice) float32 {
	edges := []float32{0, float32(negativeZero), math.SmallestNonzeroFloat32, 1e-38, prior(impl.MaxBoat), impl.MaxBoat}
	if k := d.upTo(40); k < len(edges) {
		return edges[k]
	}
	return float32(math.Abs(d.within(math.Ldexp(50, -d.upTo(6)))))
}

// wildPolar returns a valid polar whose numbers look random.
func wildPolar(d *dice, rows, columns int) impl.Polar {
	p := impl.Polar{Angles: []int{0, 180}}
	for len(p.Winds) < rows {
		p.Winds = append(p.Winds, float32(math.Abs(d.within(math.Ldexp(100, -d.upTo(8))))))
		slices.Sort(p.Winds)
		p.Winds = slices.DeleteFunc(slices.Compact(p.Winds), func(w float32) bool { return w == 0 })
	}
	for len(p.Angles) < columns {
		p.Angles = append(p.Angles, d.upTo(181))
		slices.Sort(p.Angles)
		p.Angles = slices.Compact(p.Angles)
	}
	for range rows {
		var row []float32
		for range columns {
			row = append(row, wildSpeed(d))
		}
		p.Speeds = append(p.Speeds, row)
	}
	return p
}

// edgePolars returns valid polars at the edges.
func edgePolars() []impl.Polar {
	const least = math.SmallestNonzeroFloat32
	list := []impl.Polar{
		{Winds: []float32{least, 2 * least, 3 * least, 7 * least}, Angles: []int{0, 1, 90, 91, 179, 180}, Speeds: [][]float32{{0, 1, 2, 3, 4, 5}, {9, 8, 7, 6, 5, 4}, {0, 50, 0, 50, 0, 50}, {least, 0, 3 * least, 1, least, 0}}},
		{Winds: []float32{1, next(1), 50, prior(100), 100}, Angles: []int{0, 89, 90, 180}, Speeds: [][]float32{{0, 1, 2, 3}, {3, 2, 1, 0}, {50, 0, 50, 0}, {5, 5, 5, 5}, {0, 50, prior(50), least}}},
	}
	for _, rows := range []int{1, 2, impl.MaxRows} {
		for _, columns := range []int{2, 3, impl.MaxColumns} {
			for _, speed := range []float32{0, float32(negativeZero), least, 3.5, impl.MaxBoat} {
				list = append(list, flat(evenWinds(rows), evenAngles(columns), speed))
			}
		}
	}
	return append(list, flat([]float32{least}, []int{0, 180}, 1), flat([]float32{impl.MaxSpeed}, []int{0, 180}, 1))
}

// goodPolars returns valid polars of all kinds.
func goodPolars() []impl.Polar {
	list := append(edgePolars(), cruiser())
	d := dice(8)
	for _, rows := range []int{1, 2, 3, 5, impl.MaxRows} {
		for _, columns := range []int{2, 3, 6, impl.MaxColumns} {
			list = append(list, wildPolar(&d, rows, columns))
		}
	}
	return list
}

// brokenWindLists puts lists that cannot be Winds into polars that would be valid otherwise.
func brokenWindLists(list map[string]impl.Polar) {
	put := func(name string, winds ...float32) { list["winds "+name] = flat(winds, []int{0, 60, 180}, 2) }
	inf, nan := float32(math.Inf(1)), float32(math.NaN())
	put("none")
	put("too many", evenWinds(impl.MaxRows+1)...)
	put("a thousand", evenWinds(1000)...)
	put("equal at the start", 3, 3, 4)
	put("equal at the end", 3, 4, 4)
	put("equal, the greatest", 100, 100)
	put("descending", 4, 3)
	put("descending at the end", 3, 5, 4)
	put("descending at the start", 4, 3, 5)
	for _, bad := range []float32{nan, inf, -inf, 0, float32(negativeZero), -math.SmallestNonzeroFloat32, -1, next(100), 101, math.MaxFloat32} {
		name := fmt.Sprint(bad)
		put(name+" alone", bad)
		put(name+" first", bad, 5, 6)
		put(name+" in the middle", 4, bad, 6)
		put(name+" last", 4, 5, bad)
	}
}

// brokenAngleLists does the same with Angles.
func brokenAngleLists(list map[string]impl.Polar) {
	put := func(name string, angles ...int) { list["angles "+name] = flat([]float32{4, 8}, angles, 2) }
	put("none")
	put("one, 0", 0)
	put("one, 180", 180)
	put("too many", evenAngles(impl.MaxColumns+1)...)
	put("all", evenAngles(181)...)
	put("from 1", 1, 90, 180)
	put("from -1", -1, 90, 180)
	put("from -1, and 0", -1, 0, 180)
	put("from the least int", math.MinInt, 180)
	put("to 179", 0, 90, 179)
	put("to 181", 0, 90, 181)
	put("to 181, and 180", 0, 180, 181)
	put("to the greatest int", 0, math.MaxInt)
	put("equal", 0, 90, 90, 180)
	put("equal at the start", 0, 0, 180)
	put("equal at the end", 0, 180, 180)
	put("descending", 180, 0)
	put("descending in the middle", 0, 91, 90, 180)
	put("less than the first", 0, -5, 180)
	put("greater than the last", 0, 185, 180)
}

// brokenSpeedLists does the same with Speeds.
func brokenSpeedLists(list map[string]impl.Polar) {
	put := func(name string, change func(p *impl.Polar)) {
		p := copyOf(cruiser())
		change(&p)
		list["speeds "+name] = p
	}
	put("none", func(p *impl.Polar) { p.Speeds = nil })
	put("too few", func(p *impl.Polar) { p.Speeds = p.Speeds[1:] })
	put("too many", func(p *impl.Polar) { p.Speeds = append(p.Speeds, p.Speeds[0]) })
	inf, nan := float32(math.Inf(1)), float32(math.NaN())
	for _, i := range []int{0, 2, 4} {
		put(fmt.Sprint("none in the row ", i), func(p *impl.Polar) { p.Speeds[i] = nil })
		put(fmt.Sprint("too few in the row ", i), func(p *impl.Polar) { p.Speeds[i] = p.Speeds[i][1:] })
		put(fmt.Sprint("too many in the row ", i), func(p *impl.Polar) { p.Speeds[i] = append(p.Speeds[i], 2) })
		for _, bad := range []float32{nan, inf, -inf, -math.SmallestNonzeroFloat32, -1, next(50), 51, 100, math.MaxFloat32} {
			for _, j := range []int{0, 6, 12} {
				put(fmt.Sprint(bad, " in the row ", i, " at ", j), func(p *impl.Polar) { p.Speeds[i][j] = bad })
			}
		}
	}
}

// brokenPolars returns polars that are not valid, by what they lack.
func brokenPolars() map[string]impl.Polar {
	list := map[string]impl.Polar{"no lists": {}, "empty lists": {Winds: []float32{}, Angles: []int{}, Speeds: [][]float32{}}}
	brokenWindLists(list)
	brokenAngleLists(list)
	brokenSpeedLists(list)
	return list
}

// brokenAirSpeeds returns speeds of winds for which a polar tells nothing.
func brokenAirSpeeds() []float32 {
	inf := float32(math.Inf(1))
	return []float32{float32(math.NaN()), inf, -inf, -math.SmallestNonzeroFloat32, -1, next(impl.MaxSpeed), 101, math.MaxFloat32, -math.MaxFloat32}
}

// airSpeeds returns winds for which p tells a speed: 0, those at its Winds and beside them, those
// between two, and those beyond the last one.
func airSpeeds(p impl.Polar) []float32 {
	list := []float32{0, float32(negativeZero), math.SmallestNonzeroFloat32, 1e-3, 7.3, prior(impl.MaxSpeed), impl.MaxSpeed}
	last := float32(0)
	for _, w := range p.Winds {
		list = append(list, prior(w), w, next(w), last+(w-last)/2, last+(w-last)/3)
		last = w
	}
	return slices.DeleteFunc(append(list, last+(impl.MaxSpeed-last)/2), func(w float32) bool { return w > impl.MaxSpeed })
}

// angles returns angles at which p tells a speed: its Angles, those beside them, and those between
// two.
func angles(p impl.Polar) []int {
	list := []int{0, 1, 45, 89, 90, 91, 92, 179, 180}
	for j, a := range p.Angles {
		list = append(list, a-1, a, a+1, (a+p.Angles[max(0, j-1)])/2)
	}
	slices.Sort(list)
	return slices.DeleteFunc(slices.Compact(list), func(a int) bool { return a < 0 || a > 180 })
}

// partWay follows the rule for a number between s and t.
func partWay(s, t, q float32) float32 { return plus32(s, times32(minus32(t, s), q)) }

// rowSpeedOf follows the rule for the speed of a row at an angle.
func rowSpeedOf(angles []int, row []float32, angle int) float32 {
	if j := slices.Index(angles, angle); j >= 0 {
		return row[j]
	}
	j := 0
	for angles[j+1] < angle {
		j++
	}
	return partWay(row[j], row[j+1], over32(float32(angle-angles[j]), float32(angles[j+1]-angles[j])))
}

// speedOf follows the rule for SpeedAt.
func speedOf(p impl.Polar, wind float32, angle int) float32 {
	last := len(p.Winds) - 1
	at := func(i int) float32 { return rowSpeedOf(p.Angles, p.Speeds[i], angle) }
	if wind <= p.Winds[0] {
		return times32(over32(wind, p.Winds[0]), at(0))
	}
	if wind >= p.Winds[last] {
		return at(last)
	}
	i := last
	for p.Winds[i] > wind {
		i--
	}
	return partWay(at(i), at(i+1), over32(minus32(wind, p.Winds[i]), minus32(p.Winds[i+1], p.Winds[i])))
}

func TestLimitsOfPolars(t *testing.T) {
	if impl.MaxRows != 12 || impl.MaxColumns != 24 || impl.MaxBoat != 50 {
		t.Error("limits:", impl.MaxRows, impl.MaxColumns, impl.MaxBoat)
	}
}

func TestPolarOkAtItsEdges(t *testing.T) {
	for _, p := range goodPolars() {
		given := copyOf(p)
		if !impl.PolarOk(p) || !samePolar(p, given) {
			t.Errorf("not valid, or changed: %v", given)
		}
	}
	for rows := 1; rows <= impl.MaxRows; rows++ {
		for columns := 2; columns <= impl.MaxColumns; columns++ {
			if !impl.PolarOk(flat(evenWinds(rows), evenAngles(columns), 1)) {
				t.Errorf("%d rows of %d", rows, columns)
			}
		}
	}
	for name, p := range brokenPolars() {
		given := copyOf(p)
		if impl.PolarOk(p) || !samePolar(p, given) {
			t.Errorf("valid, or changed: %s", name)
		}
	}
}

func TestAPolarTellsItsOwnNumbers(t *testing.T) {
	for _, p := range goodPolars() {
		for i, wind := range p.Winds {
			for j, angle := range p.Angles {
				if got, ok := impl.SpeedAt(p, wind, angle); !ok || got != p.Speeds[i][j] {
					t.Fatalf("%v: SpeedAt of %v and %d: %v %v", p, wind, angle, got, ok)
				}
			}
		}
	}
}

func TestSpeedAtFollowsItsRule(t *testing.T) {
	for _, p := range goodPolars() {
		given := copyOf(p)
		for _, wind := range airSpeeds(p) {
			for _, angle := range angles(p) {
				want := speedOf(p, wind, angle)
				if got, ok := impl.SpeedAt(p, wind, angle); !ok || !sameSingle(got, want) {
					t.Fatalf("SpeedAt(%v, %v, %d): %v %v, want %v", p, wind, angle, got, ok, want)
				}
			}
		}
		if !samePolar(p, given) {
			t.Fatalf("%v has become %v", given, p)
		}
	}
}

// With every angle asked, and winds that hit none of Winds, nearly every speed is rounded four
// times or more.
func TestSpeedAtRoundsEachStep(t *testing.T) {
	p, wide, fused := cruiser(), 0, 0
	for wind := float32(3.1); wind < 16; wind += 0.7 {
		for angle := range 181 {
			want := speedOf(p, wind, angle)
			if got, ok := impl.SpeedAt(p, wind, angle); !ok || !sameSingle(got, want) {
				t.Fatalf("SpeedAt of %v and %d: %v %v, want %v", wind, angle, got, ok, want)
			}
			i := 0
			for p.Winds[i+1] < wind {
				i++
			}
			s, r := rowSpeedOf(p.Angles, p.Speeds[i], angle), rowSpeedOf(p.Angles, p.Speeds[i+1], angle)
			if q := over32(minus32(wind, p.Winds[i]), minus32(p.Winds[i+1], p.Winds[i])); float32(float64(s)+float64(minus32(r, s))*float64(q)) != want {
				fused++
			}
			if q := (float64(wind) - float64(p.Winds[i])) / (float64(p.Winds[i+1]) - float64(p.Winds[i])); float32(float64(s)+(float64(r)-float64(s))*q) != want {
				wide++
			}
		}
	}
	if fused < 100 || wide < 100 {
		t.Error("only few results show whether each step is rounded:", fused, wide)
	}
}

func TestSpeedAtOfSmallNumbers(t *testing.T) {
	p := impl.Polar{Winds: []float32{4, 8}, Angles: []int{0, 40, 90, 180}, Speeds: [][]float32{{0, 4, 6, 3}, {float32(negativeZero), 6, 8, 5}}}
	third := float32(1.0 / 3)
	cases := []struct {
		wind  float32
		angle int
		want  float32
	}{
		{0, 40, 0}, {float32(negativeZero), 40, float32(negativeZero)}, {1, 40, 1}, {2, 40, 2}, {2, 65, 2.5}, {4, 40, 4}, {4, 65, 5}, {4, 180, 3}, {4, 20, 2}, {4, 91, 6 - 3*float32(1.0/90)},
		{5, 40, 4.5}, {6, 40, 5}, {6, 90, 7}, {6, 65, 6}, {7, 180, 4.5}, {8, 40, 6}, {8, 65, 7}, {8, 135, 6.5}, {8, 0, float32(negativeZero)},
		{next(8), 65, 7}, {20, 180, 5}, {50, 0, float32(negativeZero)}, {impl.MaxSpeed, 90, 8},
		{6, 60, (4 + 2*float32(0.4)) + 1}, {4, 120, 6 - 3*third}, {math.SmallestNonzeroFloat32, 90, 0},
	}
	for _, c := range cases {
		if got, ok := impl.SpeedAt(p, c.wind, c.angle); !ok || !sameSingle(got, c.want) {
			t.Errorf("SpeedAt of %v and %d: %v %v, want %v", c.wind, c.angle, got, ok, c.want)
		}
	}
}

func TestSpeedAtAndMadeUpOfWhatIsNotValid(t *testing.T) {
	check := func(name string, p impl.Polar, wind float32, angle int) {
		t.Helper()
		speed, ok := impl.SpeedAt(p, wind, angle)
		made, fine := impl.MadeUp(p, wind, angle)
		if ok || fine || !sameSingle(speed, 0) || !sameSingle(made, 0) {
			t.Errorf("%s, wind %v, angle %d: %v %v, %v %v", name, wind, angle, speed, ok, made, fine)
		}
	}
	for name, p := range brokenPolars() {
		for _, wind := range []float32{0, 3, 5, 100, float32(math.NaN())} {
			for _, angle := range []int{0, 60, 91, 180, 181} {
				check(name, p, wind, angle)
			}
		}
	}
	for _, p := range goodPolars() {
		for _, wind := range brokenAirSpeeds() {
			check("a valid polar", p, wind, 0)
			check("a valid polar", p, wind, 120)
		}
		for _, angle := range []int{-1, 181, -180, 360, -360, 540, 1 << 32, math.MinInt, math.MaxInt} {
			check("a valid polar", p, 0, angle)
			check("a valid polar", p, p.Winds[0], angle)
			check("a valid polar", p, impl.MaxSpeed, angle)
		}
	}
}
