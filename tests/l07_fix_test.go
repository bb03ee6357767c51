package tests

import (
	"math"
	"math/big"
	"testing"

	"loop.example/g03321/impl"
)

// crossOf follows the rule for Cross.
func crossOf(z, w complex128) float64 {
	return minus(times(real(z), imag(w)), times(imag(z), real(w)))
}

// lessOf returns a difference of vectors.
func lessOf(z, w complex128) complex128 {
	return complex(minus(real(z), real(w)), minus(imag(z), imag(w)))
}

// cutOf follows the rule for Between.
func cutOf(ka, kb int) int {
	right, left := sides(ka, kb)
	return min(right, left)
}

// sighting has the arguments of FixOf.
type sighting struct {
	a  complex128
	ka int
	b  complex128
	kb int
}

func (s sighting) fix() (complex128, bool) { return impl.FixOf(s.a, s.ka, s.b, s.kb) }

// rays tells how far both marks are away by the rule for FixOf, the numbers m and n.
func (s sighting) rays() (float64, float64) {
	u, w, d := ruledTurn(s.ka), ruledTurn(s.kb), lessOf(s.a, s.b)
	return over(crossOf(d, w), crossOf(u, w)), over(crossOf(d, u), crossOf(u, w))
}

// rule follows the rule for FixOf, where both marks are positions whose parts are 0 or far from the
// least floats.
func (s sighting) rule() (complex128, bool) {
	if cut := cutOf(s.ka, s.kb); cut < 20 || cut > 160 {
		return 0, false
	}
	m, n := s.rays()
	u := ruledTurn(s.ka)
	fix := lessOf(s.a, complex(times(m, real(u)), times(m, imag(u))))
	if m < 0 || n < 0 || !impl.VectorOk(fix) {
		return 0, false
	}
	return fix, true
}

// check checks that FixOf follows its rule, and returns what it tells.
func (s sighting) check(t *testing.T) (complex128, bool) {
	t.Helper()
	want, fine := s.rule()
	got, ok := s.fix()
	if ok != fine || !sameComplex(got, want) {
		t.Fatalf("FixOf(%v, %d, %v, %d): %v %v, want %v %v", s.a, s.ka, s.b, s.kb, got, ok, want, fine)
	}
	return got, ok
}

// sightFrom returns two marks that bear ka and kb from a position, at these distances.
func sightFrom(pos complex128, ka int, far float64, kb int, near float64) sighting {
	u, w := impl.Turn(ka), impl.Turn(kb)
	return sighting{pos + complex(far*real(u), far*imag(u)), ka, pos + complex(near*real(w), near*imag(w)), kb}
}

// marks returns positions of marks whose parts are 0 or far from the least floats.
func marks() []complex128 {
	list := append(wildVectors(300), 0, complex(negativeZero, negativeZero), 1, -1i, 1e8+1e8i, -1e8+1e8i, 1e8-1e8i, -1e8, 1e8i)
	d := dice(40)
	for range 100 {
		list = append(list, complex(d.within(5000), d.within(5000)), complex(d.within(impl.MaxPlane), d.within(impl.MaxPlane)))
	}
	return list
}

func TestFixOfFollowsItsRule(t *testing.T) {
	d, list := dice(41), marks()
	var told, behind, flat, fused int
	for range 30000 {
		s := sighting{list[d.upTo(len(list))], d.upTo(1080) - 360, list[d.upTo(len(list))], d.upTo(1080) - 360}
		got, ok := s.check(t)
		switch cut := cutOf(s.ka, s.kb); {
		case ok:
			told++
			m, _ := s.rays()
			if u := impl.Turn(s.ka); math.FMA(-m, real(u), real(s.a)) != real(got) {
				fused++
			}
		case cut < 20 || cut > 160:
			flat++
		default:
			behind++
		}
	}
	if told < 3000 || behind < 3000 || flat < 3000 || fused < 300 {
		t.Error("only few fixes, or of marks behind, or of bearings that cut badly, or that show their products:", told, behind, flat, fused)
	}
}

func TestFixOfAnyInt(t *testing.T) {
	for _, ka := range edgeDegrees() {
		for _, kb := range edgeDegrees() {
			pos := 1000 - 500i
			s := sightFrom(pos, ka, 3000, kb, 777)
			got, ok := s.check(t)
			if cut := cutOf(ka, kb); ok != (20 <= cut && cut <= 160) || ok && impl.Length(got-pos) > 1e-6 {
				t.Fatalf("FixOf(%v, %d, %v, %d): %v %v", s.a, ka, s.b, kb, got, ok)
			}
		}
	}
}

// Marks that bear alike, opposite, or nearly so, make no fix.
func TestFixOfBearingsThatCutBadly(t *testing.T) {
	for ka := -400; ka <= 400; ka += 7 {
		for aside := -360; aside <= 360; aside++ {
			cut := (aside + 360) % 360
			want := 20 <= cut && cut <= 160 || 200 <= cut && cut <= 340
			for _, s := range []sighting{sightFrom(0, ka, 100, ka+aside, 5000), sightFrom(2e7i, ka, 40, ka+aside+720, 40)} {
				got, ok := s.fix()
				if ok != want || !ok && !sameComplex(got, 0) {
					t.Fatalf("%d and %d aside: %v %v", ka, aside, got, ok)
				}
			}
		}
	}
	for cut, want := range map[int]bool{0: false, 1: false, 19: false, 20: true, 21: true, 90: true, 159: true, 160: true, 161: false, 179: false, 180: false, 181: false, 199: false, 200: true, 340: true, 341: false} {
		if _, ok := sightFrom(3+4i, 77, 100, 77+cut, 200).fix(); ok != want {
			t.Errorf("%d degrees: %v", cut, ok)
		}
	}
}

func TestFixOfSmallNumbers(t *testing.T) {
	cases := []struct {
		s    sighting
		want complex128
		ok   bool
	}{
		{sighting{100, 0, 100i, 90}, 0, true}, {sighting{100i, 90, 100, 0}, 0, true}, {sighting{100, 360, 100i, -270}, 0, true}, {sighting{-100, 180, 100i, 90}, 0, true}, {sighting{-100, 180, -100i, 270}, 0, true},
		{sighting{1000, 0, 1000 + 1000i, 45}, 0, true}, {sighting{1000, 45, 1000 + 500i, 90}, 1000, true}, {sighting{1000, 45, 900 + 500i, 90}, 900 - 100i, true},
		// The one, the other, or both marks lie behind.
		{sighting{100, 180, 100i, 90}, 0, false}, {sighting{100, 0, 100i, 270}, 0, false}, {sighting{100, 180, 100i, 270}, 0, false}, {sighting{1000, 45, 1100 + 500i, 270}, 0, false}, {sighting{1, 180, 100i, 90}, 0, false}, {sighting{0.001, 180, 100i, 90}, 0, false},
		// Upon one mark, and upon both.
		{sighting{100, 0, 0, 90}, 0, true}, {sighting{0, 90, 100, 0}, 0, true}, {sighting{100, 0, 0, 270}, 0, true}, {sighting{5 - 7i, 3, 5 - 7i, 100}, 5 - 7i, true}, {sighting{-1e8, 30, -1e8, 300}, -1e8, true}, {sighting{0, 0, 0, 90}, 0, true},
		// On the edge of the plane, and beyond.
		{sighting{1e8, 0, 1e8 + 500i, 90}, 1e8, true}, {sighting{1e8 - 1000, 180, 1e8 - 1000i, 270}, 1e8, true}, {sighting{1e8 - 1000, 180, 1e8 - 1000 - 1000i, 200}, 0, false}, {sighting{1e8, 180, 1e8 - 1000i, 210}, 0, false},
		{sighting{5e7 + 1e8i, 300, 1e8i, 330}, 0, false}, {sighting{9e7 - 1e8i, 315, 1e8i, 0}, 0, false}, {sighting{1e8i, 0, 9e7 - 1e8i, 315}, 0, false},
	}
	for _, c := range cases {
		got, ok := c.s.check(t)
		if off := got - c.want; ok != c.ok || math.Hypot(real(off), imag(off)) > 1e-5 {
			t.Errorf("FixOf%v: %v %v, want about %v %v", c.s, got, ok, c.want, c.ok)
		}
	}
}

// A fix upon both marks is that mark to the last bit, but for the sign of 0.
func TestFixUponBothMarks(t *testing.T) {
	d := dice(42)
	for _, mark := range append(marks(), edgeVectors()...) {
		ka, cut := d.upTo(720)-360, 20+d.upTo(141)
		if got, ok := impl.FixOf(mark, ka, mark, ka-cut); !ok || got != mark {
			t.Errorf("FixOf(%v, %d, %v, %d): %v %v", mark, ka, mark, ka-cut, got, ok)
		}
	}
	// The signs of m and of each product are those of the rule.
	z := negativeZero
	for _, mark := range []complex128{0, complex(z, z), complex(0, z), complex(z, 0)} {
		for ka := 10; ka < 360; ka += 20 {
			for _, kb := range []int{ka + 20, ka + 90, ka - 90, ka - 160} {
				sighting{mark, ka, mark, kb}.check(t)
			}
		}
	}
}

// From a fix both marks bear as they were seen, if they are a metre away at least. The difference of
// mark and fix must be valid, since otherwise it has no bearing at all.
func TestMarksBearAsTheyWereSeen(t *testing.T) {
	d, list, seen := dice(43), marks(), 0
	look := func(s sighting) {
		t.Helper()
		fix, ok := s.fix()
		if !ok || !impl.VectorOk(s.a-fix) || !impl.VectorOk(s.b-fix) || impl.Length(s.a-fix) < 1 || impl.Length(s.b-fix) < 1 {
			return
		}
		seen++
		ka, kb := degrees(big.NewInt(int64(s.ka))), degrees(big.NewInt(int64(s.kb)))
		if a, b := impl.Bearing(s.a-fix), impl.Bearing(s.b-fix); a != ka || b != kb {
			t.Fatalf("from %v, %v and %v bear %d and %d, want %d and %d", fix, s.a, s.b, a, b, ka, kb)
		}
	}
	for range 20000 {
		look(sighting{list[d.upTo(len(list))], d.upTo(720), list[d.upTo(len(list))], d.upTo(720)})
		pos := list[d.upTo(len(list))]
		ka, cut := d.upTo(1440)-720, 20+d.upTo(141)
		far, near := 1+math.Abs(d.within(math.Ldexp(impl.MaxPlane, -d.upTo(30)))), 1+math.Abs(d.within(math.Ldexp(impl.MaxPlane, -d.upTo(30))))
		s := sightFrom(pos, ka, far, ka+cut, near)
		look(s)
		look(sighting{s.b, s.kb, s.a, s.ka})
	}
	for _, k := range edgeDegrees() {
		look(sightFrom(7-100i, k, 1.001, k/2+11, 2.5e7))
	}
	if seen < 20000 {
		t.Error("only few fixes:", seen)
	}
}

func TestFixOfWhatIsNotValid(t *testing.T) {
	refuse := func(s sighting) {
		t.Helper()
		if got, ok := s.fix(); ok || !sameComplex(got, 0) {
			t.Fatalf("FixOf(%v, %d, %v, %d): %v %v", s.a, s.ka, s.b, s.kb, got, ok)
		}
	}
	for _, bad := range brokenVectors() {
		for _, cut := range []int{0, 19, 20, 90, 135, 160, 180, 200, 270} {
			for _, mark := range []complex128{0, 100i, -1e8 + 1e8i, 1e8, bad} {
				refuse(sighting{bad, 0, mark, cut})
				refuse(sighting{mark, cut + 50, bad, 50})
			}
		}
	}
	// Both lines meet in the plane, but one mark is beyond it.
	refuse(sighting{complex(above(1e8), 0), 0, 1e8 - 500 + 500i, 90})
	refuse(sighting{1e8 - 500 + 500i, 90, complex(above(1e8), 0), 0})
}
