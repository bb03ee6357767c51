package tests

import (
	"math"
	"slices"
	"testing"

	"loop.example/g03321/impl"
)

// bestOf follows the rule for BestSail.
func bestOf(list []impl.Sail, m impl.Moment) int {
	if sailsFine(list) {
		for i, s := range list {
			if fitOf(s, m) {
				return i
			}
		}
	}
	return -1
}

// keepOf follows the rule for KeepSail.
func keepOf(list []impl.Sail, at int, m impl.Moment) int {
	for i, s := range list {
		if i == at && sailsFine(list) && wideOf(s, m) {
			return i
		}
	}
	return bestOf(list, m)
}

// runSailsOf follows the rule for RunSails.
func runSailsOf(list []impl.Sail, at int, moments []impl.Moment) []int {
	if len(moments) == 0 || len(moments) > 60 || !sailsFine(list) {
		return nil
	}
	first := keepOf(list, at, moments[0])
	return append([]int{first}, runSailsOf(list, first, moments[1:])...)
}

// holdMoments holds moments; behind them are ones that fit many sails, and one that fits none.
func holdMoments(list []impl.Moment) held[impl.Moment] {
	return hold(list, moment(10, 90), moment(5, 60), moment(-7, 777), impl.Moment{})
}

// checkSail returns BestSail and KeepSail, after a look that they follow their rules, that nothing is
// written into the list, and that nothing behind it counts.
func checkSail(t *testing.T, list []impl.Sail, at int, m impl.Moment) (int, int) {
	t.Helper()
	sails, clipped := holdSails(list), slices.Clip(slices.Clone(list))
	best, kept := impl.BestSail(sails.given, m), impl.KeepSail(sails.given, at, m)
	sails.check(t, sameSail)
	if want, alone := bestOf(list, m), impl.BestSail(clipped, m); best != want || alone != want {
		t.Fatalf("BestSail(%v, %v): %d, and without room %d, want %d", list, m, best, alone, want)
	}
	if want, alone := keepOf(list, at, m), impl.KeepSail(clipped, at, m); kept != want || alone != want {
		t.Fatalf("KeepSail(%v, %d, %v): %d, and without room %d, want %d", list, at, m, kept, alone, want)
	}
	return best, kept
}

// checkNew checks that the lists that a function returns, asked again and again, are alike, and share
// no memory; it writes into one of them, and into the room behind it.
func checkNew(t *testing.T, ask func() []int) {
	t.Helper()
	got, again := ask(), ask()
	kept := slices.Clone(got)
	for i := range again[:cap(again)] {
		again[:cap(again)][i] = -55
	}
	// A later call might bring back what has been overwritten.
	if !slices.Equal(got, kept) {
		t.Fatalf("%v has become %v", kept, got)
	}
	if last := ask(); !slices.Equal(got, kept) || !slices.Equal(last, kept) {
		t.Fatalf("%v has become %v, and then %v", kept, got, last)
	}
}

// checkRun returns RunSails, after the looks of checkSail, and one that the result is new.
func checkRun(t *testing.T, list []impl.Sail, at int, moments []impl.Moment) []int {
	t.Helper()
	sails, given := holdSails(list), holdMoments(moments)
	ask := func() []int { return impl.RunSails(sails.given, at, given.given) }
	checkNew(t, ask)
	got, alone := ask(), impl.RunSails(slices.Clip(slices.Clone(list)), at, slices.Clip(slices.Clone(moments)))
	sails.check(t, sameSail)
	given.check(t, sameMoment)
	if want := runSailsOf(list, at, moments); !slices.Equal(got, want) || !slices.Equal(alone, want) {
		t.Fatalf("RunSails(%v, %d, %v): %v, and without room %v, want %v", list, at, moments, got, alone, want)
	}
	return got
}

// edgeMoments returns moments about the ends of what some sails are made for, and such as no sail is
// made for.
func edgeMoments(list []impl.Sail) []impl.Moment {
	inf, nan := float32(math.Inf(1)), float32(math.NaN())
	moments := []impl.Moment{{}, moment(nan, 90), moment(inf, 90), moment(-inf, 90), moment(5, math.MinInt), moment(5, math.MaxInt), moment(-3, 90), moment(300, 90)}
	for _, s := range list {
		for _, speed := range []float32{s.Least, s.Most, (s.Least + s.Most) / 2, prior(s.Least), next(s.Most), s.Least - 1, s.Most + 1, s.Least - 2, s.Most + 2} {
			for _, angle := range []int{s.From, s.To, (s.From + s.To) / 2, s.From - 1, s.To + 1, s.From - 5, s.To + 5, s.From - 6, s.To + 6} {
				moments = append(moments, moment(speed, angle))
			}
		}
	}
	return moments
}

func TestBestSailOfSmallNumbers(t *testing.T) {
	cases := []struct {
		speed float32
		angle int
		want  int
	}{
		{5, 60, 0}, {0, 30, 0}, {10, 120, 0}, {9, 100, 0}, {9, 125, 1}, {12, 28, 1}, {8, 29, 1}, {16, 130, 1}, {5, 130, 2}, {5, 180, 2}, {9, 135, 2}, {2, 130, 3}, {10.5, 150, 3}, {10, 131, 3}, {15, 150, 4}, {30, 180, 4}, {next(16), 60, 4}, {next(10), 60, 1},
		// In the wider sense alone they do not count.
		{5, 29, -1}, {5, 27, -1}, {17, 30, -1}, {31, 90, -1}, {-0.5, 90, -1}, {5, 181, -1}, {12, 135, -1}, {2.5, 160, -1}, {2, 151, -1},
	}
	for _, c := range cases {
		if got, _ := checkSail(t, cruising(), -1, moment(c.speed, c.angle)); got != c.want {
			t.Errorf("at %v and %d: %d, want %d", c.speed, c.angle, got, c.want)
		}
	}
	for n := range impl.MaxSails + 1 {
		list := locker(n)
		for first := range n {
			if got, _ := checkSail(t, list, first, moment(10, 90)); got != first {
				t.Errorf("%d sails, of which %d do not fit: %d", n, first, got)
			}
			// In the wider sense it fits as it did.
			list[first].From = 91
		}
		if got, _ := checkSail(t, list, 0, moment(10, 90)); got != -1 {
			t.Errorf("%d sails that do not fit: %d", n, got)
		}
	}
}

func TestKeepSailOfSmallNumbers(t *testing.T) {
	list := cruising()
	cases := []struct {
		at    int
		speed float32
		angle int
		want  int
	}{
		// It fits, be there an earlier one that fits or not.
		{0, 5, 60, 0}, {1, 9, 60, 1}, {2, 5, 100, 2}, {3, 5, 100, 3}, {4, 15, 100, 4},
		// It fits in the wider sense alone.
		{0, 10.5, 60, 0}, {0, 11, 60, 0}, {0, 5, 125, 0}, {0, 5, 25, 0}, {0, -1, 25, 0}, {1, 7, 60, 1}, {1, 17, 60, 1}, {1, 17, 135, 1}, {1, 12, 23, 1}, {2, 2, 85, 2}, {2, 10, 185, 2}, {3, 1, 65, 3}, {4, 13, 30, 4}, {4, 31, 185, 4},
		// It is let go: for another one, or for none.
		{0, next(11), 60, 1}, {0, 11, 126, 1}, {0, 5, 126, 2}, {0, 5, 24, -1}, {0, prior(-1), 60, -1}, {1, prior(7), 60, 0}, {1, next(17), 60, 4}, {1, 17, 136, 4}, {1, 12, 22, -1}, {2, prior(2), 120, 0}, {2, next(10), 120, 1}, {2, 5, 84, 0}, {3, 5, 64, 0}, {3, 5, 156, 2}, {4, prior(13), 60, 1}, {4, 20, 29, -1}, {4, 32, 90, -1},
		// There is none that fits, but it stays; of the others, what fits in the wider sense alone is not set.
		{0, 5, 28, 0}, {1, 5, 28, -1}, {-1, 5, 28, -1}, {-1, 10.5, 60, 1}, {2, 10.5, 60, 1}, {-1, 17, 130, 4}, {-1, 12, 135, -1}, {0, 12, 135, -1}, {1, 12, 135, 1}, {3, 12, 135, 3},
	}
	for _, c := range cases {
		if _, got := checkSail(t, list, c.at, moment(c.speed, c.angle)); got != c.want {
			t.Errorf("%d at %v and %d: %d, want %d", c.at, c.speed, c.angle, got, c.want)
		}
	}
}

// Where there is no sail at, the best one is told, and none is looked for beyond the list.
func TestKeepSailFromEachInt(t *testing.T) {
	for n := range impl.MaxSails + 1 {
		list := locker(n)
		for i := range list {
			list[i].From = 91
		}
		if n > 2 {
			list[2].From = 90
		}
		best := -1
		if n > 2 {
			best = 2
		}
		for _, at := range noIndexes(n) {
			if _, got := checkSail(t, list, at, moment(10, 90)); got != best && (at < 0 || at >= n) {
				t.Errorf("%d of %d sails: %d", at, n, got)
			}
		}
		for at := range n {
			if _, got := checkSail(t, list, at, moment(10, 90)); got != at {
				t.Errorf("%d of %d sails is let go for %d", at, n, got)
			}
			if _, got := checkSail(t, list, at, moment(10, 30)); got != -1 {
				t.Errorf("%d of %d sails becomes %d", at, n, got)
			}
		}
	}
}

func TestSailsFollowTheirRules(t *testing.T) {
	for _, list := range append(goodSails(), cruising()) {
		for i, m := range edgeMoments(list) {
			checkSail(t, list, i%(len(list)+2)-1, m)
		}
	}
	d, best, kept, let := dice(112), 0, 0, 0
	for range 3000 {
		list := wildSails(&d, 1+d.upTo(impl.MaxSails), 10)
		at := d.upTo(len(list)+2) - 1
		for _, m := range wildMoments(&d, list, 10, 4) {
			first, now := checkSail(t, list, at, m)
			switch {
			case now == at && now != first:
				kept++
			case now != at && at >= 0:
				let++
			case now != -1:
				best++
			}
			at = now
		}
	}
	if best < 2000 || kept < 2000 || let < 2000 {
		t.Error("only few sails are best, kept or let go:", best, kept, let)
	}
}

// wildSails returns n sails whose speeds and angles lie so near to each other that a moment may fit
// many of them, the more the wider they are.
func wildSails(d *dice, n, width int) []impl.Sail {
	list := locker(n)
	for i := range list {
		least, from := d.upTo(8), 10*d.upTo(12)
		list[i] = cut(list[i].Name, float32(least), float32(least+1+d.upTo(width)), from, min(180, from+10*d.upTo(width)))
	}
	return list
}

// wildMoments returns n moments, each of which fits one of the sails in the wider sense; for some moments
// in a row it is the same sail. Of so many moments about one is any moment.
func wildMoments(d *dice, list []impl.Sail, n, every int) []impl.Moment {
	moments := []impl.Moment{}
	s := list[d.upTo(len(list))]
	for range n {
		if d.upTo(3) == 0 {
			s = list[d.upTo(len(list))]
		}
		halves := int(2*(s.Most-s.Least)) + 5
		m := moment(s.Least-1+float32(d.upTo(halves))/2, s.From-5+d.upTo(s.To-s.From+11))
		if d.upTo(every) == 0 {
			m = moment(float32(d.upTo(50)-4)/2, d.upTo(200)-10)
		}
		moments = append(moments, m)
	}
	return moments
}

func TestRunSailsOfSmallNumbers(t *testing.T) {
	m := moment
	cases := []struct {
		name    string
		at      int
		moments []impl.Moment
		want    []int
	}{
		{"one", -1, []impl.Moment{m(5, 60)}, []int{0}}, {"one that no sail fits", 0, []impl.Moment{m(50, 60)}, []int{-1}}, {"one that is kept", 1, []impl.Moment{m(7.5, 60)}, []int{1}}, {"one that is not kept", 1, []impl.Moment{m(6, 60)}, []int{0}},
		{"a wind that rises", -1, []impl.Moment{m(5, 60), m(9, 60), m(10.5, 60), m(11, 60), m(12, 60), m(16, 60), m(17, 60), m(18, 60), m(30, 60), m(31, 60), m(32, 60)}, []int{0, 0, 0, 0, 1, 1, 1, 4, 4, 4, -1}},
		{"and falls", 4, []impl.Moment{m(31, 60), m(18, 60), m(14, 60), m(13, 60), m(12, 60), m(8, 60), m(7, 60), m(6, 60), m(0, 60), m(-1, 60), m(-2, 60)}, []int{4, 4, 4, 4, 1, 1, 1, 0, 0, 0, -1}},
		// Behind a moment that no sail fits, what fits in the wider sense alone is not set.
		{"a gap", 1, []impl.Moment{m(17, 60), m(40, 60), m(17, 30), m(17, 60), m(17, 30), m(16, 60), m(17, 30)}, []int{1, -1, -1, 4, 4, 4, 4}}, {"a long gap", 2, []impl.Moment{m(5, 20), m(5, 29), m(5, 28), m(5, 30), m(5, 25)}, []int{-1, -1, -1, 0, 0}},
		// What is kept comes from the moment before, not from the first one.
		{"there and back", 1, []impl.Moment{m(7, 60), m(6, 60), m(7, 60), m(8, 60)}, []int{1, 0, 0, 0}}, {"no sail at first", 5, []impl.Moment{m(10.5, 60), m(7, 60)}, []int{1, 1}}, {"none", 3, nil, nil},
	}
	for _, c := range cases {
		if got := checkRun(t, cruising(), c.at, c.moments); !slices.Equal(got, c.want) {
			t.Errorf("%s: %v, want %v", c.name, got, c.want)
		}
	}
}

// No moment, one, as many as may be, and one more; whatever at is.
func TestRunSailsOfManyMoments(t *testing.T) {
	list := cruising()
	for n := range impl.MaxMoments + 40 {
		moments, want := []impl.Moment{}, []int{}
		for i := range n {
			moments = append(moments, []impl.Moment{moment(5, 60), moment(12, 60), moment(40, 60)}[i%3])
			want = append(want, []int{0, 1, -1}[i%3])
		}
		if n > 60 {
			want = nil
		}
		for _, at := range append(noIndexes(len(list)), 0, 1, 4) {
			if got := checkRun(t, list, at, moments); !slices.Equal(got, want) {
				t.Errorf("%d moments from %d on: %v", n, at, got)
			}
		}
	}
	// Without sails none is set, but the moments are told.
	if got := checkRun(t, nil, 0, []impl.Moment{moment(5, 60), {}}); !slices.Equal(got, []int{-1, -1}) {
		t.Error("no sails:", got)
	}
}

func TestRunSailsFollowsItsRule(t *testing.T) {
	d, changes, gaps := dice(113), 0, 0
	for i := range 2000 {
		list := wildSails(&d, 1+d.upTo(impl.MaxSails), 10)
		moments := wildMoments(&d, list, []int{1, 2, 5, 20, 59, 60}[i%6], 3+d.upTo(30))
		got := checkRun(t, list, d.upTo(len(list)+2)-1, moments)
		changes += len(slices.Compact(slices.Clone(got))) - 1
		if k := slices.Index(got, -1); k >= 0 && slices.Max(got[k:]) >= 0 {
			gaps++
		}
	}
	if changes < 5000 || gaps < 200 {
		t.Error("only few sails are changed, or none is set in between:", changes, gaps)
	}
}

// A list that is not valid has no best sail, keeps none, and no sail runs, also where the sails that are
// asked for would fit.
func TestSailsOfListsThatAreNotValid(t *testing.T) {
	moments := []impl.Moment{moment(10, 90), moment(10.5, 100), moment(5, 60), moment(1, 28), {}}
	for name, list := range brokenLockers() {
		for _, at := range append(noIndexes(len(list)), 0, 1, len(list)/2, len(list)-1) {
			for _, m := range moments {
				if best, kept := checkSail(t, list, at, m); best != -1 || kept != -1 {
					t.Errorf("%s, %d at %v: %d and %d", name, at, m, best, kept)
				}
			}
			for n := range 3 {
				if got := checkRun(t, list, at, moments[:n]); len(got) != 0 {
					t.Errorf("%s, %d at %d moments: %v", name, at, n, got)
				}
			}
		}
		if got := checkRun(t, list, 0, make([]impl.Moment, impl.MaxMoments+1)); len(got) != 0 {
			t.Errorf("%s, too many moments: %v", name, got)
		}
	}
}
