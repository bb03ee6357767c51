package tests

import (
	"math"
	"regexp"
	"slices"
	"strings"
	"testing"

	"loop.example/g03321/impl"
)

// held is a list that is given to a function, with room behind its elements, all of that room, and what
// was in it before.
type held[T any] struct{ given, whole, before []T }

// hold returns a copy of a list that has other elements in the room behind it.
func hold[T any](list []T, behind ...T) held[T] {
	whole := slices.Clip(append(slices.Clone(list), behind...))
	return held[T]{given: whole[:len(list)], whole: whole, before: slices.Clone(whole)}
}

// check checks that nothing is written into the list or the room behind it.
func (h held[T]) check(t *testing.T, same func(a, b T) bool) {
	t.Helper()
	if !slices.EqualFunc(h.whole, h.before, same) {
		t.Fatalf("%v has become %v", h.before, h.whole)
	}
}

// sameSail reports whether two sails are the same.
func sameSail(a, b impl.Sail) bool {
	return a.Name == b.Name && sameSingle(a.Least, b.Least) && sameSingle(a.Most, b.Most) && a.From == b.From && a.To == b.To
}

// holdSails holds a list of sails; behind it is a sail that fits whatever there is.
func holdSails(list []impl.Sail) held[impl.Sail] {
	return hold(list, cut("spare", 0, 200, 0, 180), impl.Sail{}, cut("none", -5, 500, -7, 777))
}

// cut returns a sail.
func cut(name string, least, most float32, from, to int) impl.Sail {
	return impl.Sail{Name: name, Least: least, Most: most, From: from, To: to}
}

// letters returns a name of n letters.
func letters(n int) string { return strings.Repeat("xyzabc", n)[:n] }

// locker returns n sails whose names alone differ; it is valid up to MaxSails.
func locker(n int) []impl.Sail {
	list := []impl.Sail{}
	for i := range n {
		list = append(list, cut("sail"+string(rune('a'+i/26))+string(rune('a'+i%26)), 2, 20, 30, 160))
	}
	return list
}

// cruising returns the sails of an ordinary yacht.
func cruising() []impl.Sail {
	return []impl.Sail{cut("genoa", 0, 10, 30, 120), cut("jib", 8, 16, 28, 130), cut("kite", 3, 9, 90, 180), cut("gennaker", 2, 11, 70, 150), cut("storm", 14, 30, 35, 180)}
}

// goodSails returns valid lists.
func goodSails() [][]impl.Sail {
	tiny := float32(math.SmallestNonzeroFloat32)
	lists := [][]impl.Sail{
		nil, cruising(), {cut("a", 0, tiny, 0, 0)}, {cut("z", float32(negativeZero), 200, 0, 180)}, {cut("m", prior(200), 200, 180, 180)}, {cut(letters(impl.MaxName), 7, next(7), 90, 90)},
		{cut("main", 0, 10, 0, 180), cut("mai", 0, 10, 0, 180), cut("mainn", 0, 10, 0, 180), cut("maim", 0, 10, 0, 180), cut("nain", 0, 10, 0, 180)},
		{cut("non", 1, 2, 3, 4), cut("nonee", 1, 2, 3, 4), cut("anone", 1, 2, 3, 4), cut("nonenone", 1, 2, 3, 4), cut("n", 1, 2, 3, 4), cut("nona", 1, 2, 3, 4), cut("mone", 1, 2, 3, 4)},
		{cut(letters(15)+"a", 1, 2, 3, 4), cut(letters(15)+"b", 1, 2, 3, 4), cut(letters(15), 1, 2, 3, 4)},
	}
	for n := range impl.MaxSails + 1 {
		lists = append(lists, locker(n))
	}
	return lists
}

// brokenSails returns sails that are in no valid list, by what they lack; their names are no others'.
func brokenSails() map[string]impl.Sail {
	inf, nan := float32(math.Inf(1)), float32(math.NaN())
	list := map[string]impl.Sail{"nothing": {}}
	for _, name := range []string{"", "none", letters(17), letters(40), letters(1000), "`", "{", "J", "jiB", "jib ", " jib", "j ib", "jib1", "1", "-", "é", "a\x00", "\x00", "\xff", "None", "NONE"} {
		list["the name "+name] = cut(name, 2, 20, 30, 160)
	}
	for name, ends := range map[string][2]float32{
		"just below 0": {-math.SmallestNonzeroFloat32, 20}, "below 0": {-1, 20}, "NaN and a speed": {nan, 20}, "infinite and a speed": {inf, 20}, "infinite below 0": {-inf, 20}, "infinite both": {inf, inf},
		"alike": {7, 7}, "alike at 0": {0, 0}, "alike but for the sign": {float32(negativeZero), 0}, "alike at the end": {200, 200}, "the other way round": {20, 2}, "just less": {7, prior(7)}, "just beyond": {2, next(200)}, "beyond": {2, 201}, "far beyond": {2, math.MaxFloat32}, "both beyond": {next(200), 300},
		"a speed and NaN": {2, nan}, "a speed and infinite": {2, inf}, "a speed and infinite below 0": {2, -inf}, "NaN both": {nan, nan}, "below 0 both": {-2, -1},
	} {
		list["speeds "+name] = cut("speedy", ends[0], ends[1], 30, 160)
	}
	for _, ends := range [][2]int{{-1, 160}, {-1, -1}, {-90, 180}, {181, 181}, {181, 180}, {181, 200}, {30, 29}, {30, 181}, {180, 181}, {180, 179}, {0, -1}, {0, 181}, {0, 360}, {math.MinInt, 160}, {math.MaxInt, 160}, {30, math.MinInt}, {30, math.MaxInt}, {math.MinInt, math.MaxInt}, {math.MaxInt, math.MinInt}, {math.MinInt, math.MinInt}, {math.MaxInt, math.MaxInt}} {
		list["angles"+numbers(ends[0], ends[1])] = cut("angular", 2, 20, ends[0], ends[1])
	}
	return list
}

// brokenLockers returns lists that are not valid, by what they lack.
func brokenLockers() map[string][]impl.Sail {
	lists := map[string][]impl.Sail{"one sail more than may be": locker(impl.MaxSails + 1), "many sails": locker(100)}
	for name, s := range brokenSails() {
		for _, n := range []int{1, 2, 5, impl.MaxSails} {
			for _, place := range []int{0, n / 2, n - 1} {
				list := locker(n)
				list[place] = s
				lists[name+numbers(n, place)] = list
			}
		}
	}
	for _, n := range []int{2, 3, 5, impl.MaxSails} {
		for i := range n {
			for j := range i {
				list := locker(n)
				list[i].Name = list[j].Name
				list[i].Least, list[i].From = 3, 31
				lists["a name twice"+numbers(n, j, i)] = list
			}
		}
	}
	return lists
}

var sailName = regexp.MustCompile(`\A[a-z]{1,16}\z`)

// sailsFine follows the rule for SailsOk.
func sailsFine(list []impl.Sail) bool {
	names := map[string]bool{"none": true}
	for _, s := range list {
		least, most := float64(s.Least), float64(s.Most)
		if names[s.Name] || !sailName.MatchString(s.Name) || !(least >= 0) || !(most > least) || !(most <= 200) || s.From < 0 || s.From > 180 || s.To < s.From || s.To > 180 {
			return false
		}
		names[s.Name] = true
	}
	return len(list) <= 12
}

// checkSails returns SailsOk, after a look that it follows its rule, that nothing is written into the
// list, and that nothing behind it counts.
func checkSails(t *testing.T, list []impl.Sail) bool {
	t.Helper()
	sails := holdSails(list)
	got, alone := impl.SailsOk(sails.given), impl.SailsOk(slices.Clip(slices.Clone(list)))
	sails.check(t, sameSail)
	if want := sailsFine(list); got != want || alone != want {
		t.Fatalf("SailsOk(%v): %v, and without room %v, want %v", list, got, alone, want)
	}
	return got
}

func TestLimitsOfSails(t *testing.T) {
	if impl.MaxSails != 12 || impl.MaxMoments != 60 || impl.MaxName != 16 {
		t.Error("limits:", impl.MaxSails, impl.MaxMoments, impl.MaxName)
	}
}

func TestSailsOkAtItsEdges(t *testing.T) {
	for _, list := range goodSails() {
		if !checkSails(t, list) {
			t.Error("not valid:", list)
		}
	}
	for name, list := range brokenLockers() {
		if checkSails(t, list) {
			t.Error("valid:", name)
		}
	}
	for n := range 4 * impl.MaxSails {
		if checkSails(t, locker(n)) != (n <= 12) {
			t.Errorf("%d sails", n)
		}
	}
}

// Each byte at each place of a name, and names of each length.
func TestSailsOkOfNames(t *testing.T) {
	named := func(name string) bool {
		t.Helper()
		list := locker(3)
		list[1].Name = name
		return checkSails(t, list)
	}
	for _, n := range []int{1, 2, 4, 15, 16} {
		for place := range n {
			for c := range 256 {
				name := []byte(letters(n))
				name[place] = byte(c)
				if named(string(name)) != (c >= 97 && c <= 122) {
					t.Errorf("%q", name)
				}
			}
		}
	}
	for n := range 60 {
		if named(letters(n)) != (n >= 1 && n <= 16) {
			t.Errorf("%d letters", n)
		}
	}
	for name, want := range map[string]bool{"none": false, "non": true, "nonea": true, "nones": true, "nonenonenonenone": true, "nonenonenonenonen": false, "enon": true, "onen": true, "anone": true, "noone": true, "nonne": true, "": false, "one": true} {
		if named(name) != want {
			t.Errorf("%q: %v", name, !want)
		}
	}
}

// A name that stands twice is seen at each two places, whatever else differs; it takes the whole name
// to be alike, and nothing but the name.
func TestSailsOkOfNamesakes(t *testing.T) {
	for n := 2; n <= impl.MaxSails; n++ {
		for i := range n {
			for j := range i {
				list := locker(n)
				list[i] = cut(list[j].Name, 5, 6, 7, 8)
				if checkSails(t, list) {
					t.Errorf("the sails %d and %d of %d have one name", j, i, n)
				}
				list[i] = list[j]
				if checkSails(t, list) {
					t.Errorf("the sails %d and %d of %d are alike", j, i, n)
				}
				for _, other := range []string{list[j].Name + "x", list[j].Name[1:], list[j].Name[:5], "y" + list[j].Name[1:]} {
					list[i].Name = other
					if !checkSails(t, list) {
						t.Errorf("%s and %s", list[j].Name, other)
					}
				}
			}
		}
	}
}

// Each speed that a sail may end with, beside each other one.
func TestSailsOkOfSpeeds(t *testing.T) {
	inf, nan, tiny := float32(math.Inf(1)), float32(math.NaN()), float32(math.SmallestNonzeroFloat32)
	speeds := []float32{nan, -inf, -math.MaxFloat32, -1, -tiny, float32(negativeZero), 0, tiny, 1, prior(7), 7, next(7), 100, prior(200), 200, next(200), 201, math.MaxFloat32, inf}
	valid := 0
	for i, least := range speeds {
		for j, most := range speeds {
			list := locker(2)
			list[1].Least, list[1].Most = least, most
			got := checkSails(t, list)
			if got {
				valid++
			}
			// From -0 on the speeds stand in order; -0 and 0 are one speed.
			if want := i >= 5 && j > i && j <= 14 && !(i == 5 && j == 6); got != want {
				t.Errorf("from %v to %v: %v", least, most, got)
			}
		}
	}
	if valid != 44 {
		t.Error("valid:", valid)
	}
}

// Each angle that a sail may end with, beside each other one.
func TestSailsOkOfAngles(t *testing.T) {
	angles := []int{math.MinInt, math.MinInt + 1, -181, -180, -1, 0, 1, 89, 90, 91, 179, 180, 181, 359, 360, 1 << 32, math.MaxInt - 1, math.MaxInt}
	for _, from := range angles {
		for _, to := range append(angles, from-1, from, from+1) {
			list := locker(2)
			list[0].From, list[0].To = from, to
			if got, want := checkSails(t, list), 0 <= from && from <= to && to <= 180; got != want {
				t.Errorf("from %d to %d: %v", from, to, got)
			}
		}
	}
}
