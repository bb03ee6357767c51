package tests

import (
	"math"
	"slices"
	"testing"

	"loop.example/g03321/impl"
)

// scaledOf follows the rule for ScalePolar with a finite scale.
func scaledOf(p impl.Polar, k float32) (impl.Polar, bool) {
	q := copyOf(p)
	for i, row := range p.Speeds {
		for j, speed := range row {
			scaled := times32(speed, k)
			if !(scaled >= 0 && scaled <= 50) {
				return impl.Polar{}, false
			}
			q.Speeds[i][j] = scaled
		}
	}
	return q, true
}

// scales returns finite scales: 0, 1 and their neighbours, less and more.
func scales() []float32 {
	list := []float32{0, float32(negativeZero), 1, prior(1), next(1), 2, 50, 1000, 1e38, math.MaxFloat32, 1e-30, math.SmallestNonzeroFloat32, 1 + 1.0/1024}
	for _, k := range shares() {
		list = append(list, k, 1+k, 10*k)
	}
	return list
}

func TestAPolarScaledByOneIsTheSame(t *testing.T) {
	for _, p := range goodPolars() {
		if got, ok := impl.ScalePolar(p, 1); !ok || !samePolar(got, p) {
			t.Errorf("%v has become %v %v", p, got, ok)
		}
	}
}

func TestScalePolarFollowsItsRule(t *testing.T) {
	some, none, rounded := 0, 0, 0
	for _, p := range goodPolars() {
		given := copyOf(p)
		for _, k := range append(scales(), -1, -0.5, -math.SmallestNonzeroFloat32, -math.MaxFloat32) {
			want, fine := scaledOf(p, k)
			got, ok := impl.ScalePolar(p, k)
			if ok != fine || !samePolar(got, want) || !samePolar(p, given) {
				t.Fatalf("%v by %v: %v %v, want %v %v", given, k, got, ok, want, fine)
			}
			if !ok {
				none++
				continue
			}
			some++
			if !impl.PolarOk(got) {
				t.Fatalf("%v by %v is not valid: %v", given, k, got)
			}
			last := len(p.Angles) - 1
			if float64(p.Speeds[0][last])*float64(k) != float64(got.Speeds[0][last]) {
				rounded++
			}
		}
	}
	if some < 500 || none < 500 || rounded < 300 {
		t.Error("only few are scaled, are refused, or are rounded:", some, none, rounded)
	}
}

func TestScalePolarOfSmallNumbers(t *testing.T) {
	p := oneRow([]int{0, 60, 180}, 0, 4, 3)
	z := float32(negativeZero)
	for k, want := range map[float32][]float32{0: {0, 0, 0}, 0.25: {0, 1, 0.75}, 1: {0, 4, 3}, 2: {0, 8, 6}, 12.5: {0, 50, 37.5}, math.SmallestNonzeroFloat32: {0, 4 * math.SmallestNonzeroFloat32, 3 * math.SmallestNonzeroFloat32}} {
		if got, ok := impl.ScalePolar(p, k); !ok || !samePolar(got, oneRow(p.Angles, want...)) {
			t.Errorf("by %v: %v %v", k, got, ok)
		}
	}
	// A product of 0 is 0, with whatever sign, so that these polars are valid.
	if got, ok := impl.ScalePolar(p, z); !ok || !samePolar(got, oneRow(p.Angles, z, z, z)) {
		t.Error("by the 0 whose sign is turned:", got, ok)
	}
	if got, ok := impl.ScalePolar(oneRow(p.Angles, 0, z, 0), -2); !ok || !samePolar(got, oneRow(p.Angles, z, 0, z)) {
		t.Error("a polar of zeros by -2:", got, ok)
	}
}

func TestScalePolarAtTheLimit(t *testing.T) {
	d, down := dice(11), 0
	for range 1000 {
		v := prior(impl.MaxBoat) - float32(d.upTo(1<<20))/(1<<15)
		k := over32(impl.MaxBoat, v)
		for _, k := range []float32{prior(prior(k)), prior(k), k, next(k), next(next(k))} {
			p := oneRow([]int{60, 90, 120}, 1, v, 2)
			want, fine := scaledOf(p, k)
			got, ok := impl.ScalePolar(p, k)
			if ok != fine || !samePolar(got, want) {
				t.Fatalf("%v by %v: %v %v, want %v", v, k, got, ok, fine)
			}
			if ok && float64(v)*float64(k) > impl.MaxBoat {
				down++
			}
		}
	}
	if down < 100 {
		t.Error("only few products are rounded down to MaxBoat:", down)
	}
	if got, ok := impl.ScalePolar(flat([]float32{4}, []int{0, 180}, impl.MaxBoat), next(1)); ok || !samePolar(got, impl.Polar{}) {
		t.Error("MaxBoat by the next single after 1:", got, ok)
	}
}

func TestScalePolarOfWhatIsNotValid(t *testing.T) {
	inf := float32(math.Inf(1))
	refuse := func(name string, p impl.Polar, k float32) {
		t.Helper()
		if got, ok := impl.ScalePolar(p, k); ok || !samePolar(got, impl.Polar{}) {
			t.Errorf("%s by %v: %v %v", name, k, got, ok)
		}
	}
	for name, p := range brokenPolars() {
		for _, k := range []float32{0, 0.25, 0.5, 1, 2, -1, float32(math.NaN()), inf} {
			refuse(name, p, k)
		}
	}
	for _, p := range goodPolars() {
		for _, k := range []float32{float32(math.NaN()), inf, -inf} {
			refuse("a valid polar", p, k)
		}
	}
	for _, k := range []float32{-1, -0.5, -1e-6, -2, -math.MaxFloat32} {
		refuse("the yacht", cruiser(), k)
	}
}

// roomy returns a polar in whose lists there is room behind the elements, filled with -7; both rows
// are one and the same memory.
func roomy() impl.Polar {
	row := []float32{1, 2, 3, -7, -7}
	winds, angles := []float32{4, 8, -7, -7}, []int{0, 60, 180, -7, -7}
	return impl.Polar{Winds: winds[:2], Angles: angles[:3], Speeds: [][]float32{row[:3], row[:3], nil, nil}[:2]}
}

// allOf returns p with the room behind its elements.
func allOf(p impl.Polar) impl.Polar {
	q := impl.Polar{Winds: p.Winds[:cap(p.Winds)], Angles: p.Angles[:cap(p.Angles)], Speeds: p.Speeds[:cap(p.Speeds)]}
	q.Speeds = slices.Clone(q.Speeds)
	for i, row := range q.Speeds {
		q.Speeds[i] = row[:cap(row)]
	}
	return q
}

func TestScalePolarReturnsNewMemory(t *testing.T) {
	for _, k := range []float32{0, 1, 0.5, 10} {
		p := roomy()
		got, ok := impl.ScalePolar(p, k)
		if !ok || !samePolar(allOf(p), allOf(roomy())) {
			t.Fatalf("by %v: %v, and the polar is %v", k, ok, allOf(p))
		}
		// What is written into the first lists of the result, and behind them, is seen in no other one.
		want := copyOf(got)
		got.Winds[0], got.Angles[0], got.Speeds[0][0] = 91, 92, 93
		_, _, _ = append(got.Winds, 94), append(got.Angles, 95), append(got.Speeds[0], 96, 97)
		if !slices.Equal(got.Speeds[1], want.Speeds[1]) || !samePolar(allOf(p), allOf(roomy())) {
			t.Fatalf("by %v: the rows are %v, and the polar is %v", k, got.Speeds, allOf(p))
		}
		got.Speeds[0] = nil
		_ = append(got.Speeds, []float32{98}, []float32{99})
		if !samePolar(allOf(p), allOf(roomy())) {
			t.Fatalf("by %v: the polar has become %v", k, allOf(p))
		}
	}
}
