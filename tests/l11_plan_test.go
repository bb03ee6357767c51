package tests

import (
	"math"
	"slices"
	"testing"

	"loop.example/g03321/impl"
)

// planFine follows the rule for PlanOk.
func planFine(list []impl.Sail, moments []impl.Moment, plan []int) bool {
	if !sailsFine(list) || len(moments) > 60 || len(plan) != len(moments) {
		return false
	}
	for i, at := range plan {
		if at < 0 || at >= len(list) || !wideOf(list[at], moments[i]) {
			return false
		}
	}
	return true
}

// changesOf follows the rule for Changes: of numbers that are alike, one behind the other, one is left.
func changesOf(plan []int) int {
	return max(0, len(slices.Compact(slices.Clone(plan)))-1)
}

// fewestOf follows the rule for FewestChanges, from the last moment to the first: runs[i][k] is the run of
// the sail k from the moment i on.
func fewestOf(list []impl.Sail, moments []impl.Moment) ([]int, bool) {
	if !sailsFine(list) || len(moments) > 60 {
		return nil, false
	}
	runs := make([][]int, len(moments)+1)
	runs[len(moments)] = make([]int, len(list))
	for i := len(moments) - 1; i >= 0; i-- {
		runs[i] = make([]int, len(list))
		for k, s := range list {
			if wideOf(s, moments[i]) {
				runs[i][k] = runs[i+1][k] + 1
			}
		}
	}
	plan := []int{}
	for len(plan) < len(moments) {
		from := runs[len(plan)]
		if len(from) == 0 || slices.Max(from) == 0 {
			return nil, false
		}
		taken := slices.Index(from, slices.Max(from))
		for range from[taken] {
			plan = append(plan, taken)
		}
	}
	return plan, true
}

// leastOf returns how many changes a plan has at least that fits, and whether there is one: for each moment
// it is known how many changes bring each sail there.
func leastOf(list []impl.Sail, moments []impl.Moment) (int, bool) {
	const never = 1000
	if len(moments) == 0 {
		return 0, true
	}
	costs, least := make([]int, len(list)), -1
	for _, m := range moments {
		lowest := never
		for k, s := range list {
			costs[k] = min(costs[k], least+1)
			if !wideOf(s, m) {
				costs[k] = never
			}
			lowest = min(lowest, costs[k])
		}
		if lowest == never {
			return 0, false
		}
		least = lowest
	}
	return least, true
}

// checkPlan returns PlanOk, after a look that it follows its rule, that nothing is written into the
// arguments, and that nothing behind them counts.
func checkPlan(t *testing.T, list []impl.Sail, moments []impl.Moment, plan []int) bool {
	t.Helper()
	sails, given, numbers := holdSails(list), holdMoments(moments), hold(plan, 0, 1, -1)
	got := impl.PlanOk(sails.given, given.given, numbers.given)
	alone := impl.PlanOk(slices.Clip(slices.Clone(list)), slices.Clip(slices.Clone(moments)), slices.Clip(slices.Clone(plan)))
	sails.check(t, sameSail)
	given.check(t, sameMoment)
	numbers.check(t, func(a, b int) bool { return a == b })
	if want := planFine(list, moments, plan); got != want || alone != want {
		t.Fatalf("PlanOk(%v, %v, %v): %v, and without room %v, want %v", list, moments, plan, got, alone, want)
	}
	return got
}

// checkChanges returns Changes, likewise.
func checkChanges(t *testing.T, plan []int) int {
	t.Helper()
	numbers := hold(plan, 0, 1, -1)
	got, alone := impl.Changes(numbers.given), impl.Changes(slices.Clip(slices.Clone(plan)))
	numbers.check(t, func(a, b int) bool { return a == b })
	if want := changesOf(plan); got != want || alone != want {
		t.Fatalf("Changes(%v): %d, and without room %d, want %d", plan, got, alone, want)
	}
	return got
}

// checkFewest returns FewestChanges, likewise, and after a look that the plan is new, that it fits, and
// that no plan that fits has fewer changes.
func checkFewest(t *testing.T, list []impl.Sail, moments []impl.Moment) ([]int, bool) {
	t.Helper()
	sails, given := holdSails(list), holdMoments(moments)
	got, ok := impl.FewestChanges(sails.given, given.given)
	checkNew(t, func() []int {
		plan, _ := impl.FewestChanges(sails.given, given.given)
		return plan
	})
	alone, fine := impl.FewestChanges(slices.Clip(slices.Clone(list)), slices.Clip(slices.Clone(moments)))
	sails.check(t, sameSail)
	given.check(t, sameMoment)
	if want, told := fewestOf(list, moments); ok != told || fine != told || !slices.Equal(got, want) || !slices.Equal(alone, want) {
		t.Fatalf("FewestChanges(%v, %v): %v %v, and without room %v %v, want %v %v", list, moments, got, ok, alone, fine, want, told)
	}
	if !sailsFine(list) || len(moments) > impl.MaxMoments {
		return got, ok
	}
	least, told := leastOf(list, moments)
	if ok != told || impl.Changes(got) != least || ok != impl.PlanOk(list, moments, got) && len(moments) > 0 {
		t.Fatalf("FewestChanges(%v, %v): %v %v with %d changes, want %d %v", list, moments, got, ok, impl.Changes(got), least, told)
	}
	return got, ok
}

// byAngles returns sails that fit all winds from 0 to 20, at these angles each; in the wider sense, at
// five degrees more at both ends.
func byAngles(ends ...int) []impl.Sail {
	list := locker(len(ends) / 2)
	for i := range list {
		list[i] = cut(list[i].Name, 0, 20, ends[2*i], ends[2*i+1])
	}
	return list
}

// atAngles returns moments at these angles.
func atAngles(angles ...int) []impl.Moment {
	moments := []impl.Moment{}
	for _, angle := range angles {
		moments = append(moments, moment(10, angle))
	}
	return moments
}

// repeat returns a plan of n alike numbers.
func repeat(at, n int) []int { return slices.Repeat([]int{at}, n) }

func TestFewestChangesOfSmallNumbers(t *testing.T) {
	cases := []struct {
		name    string
		sails   []impl.Sail
		moments []impl.Moment
		want    []int
		ok      bool
	}{
		{"no moment", byAngles(0, 90), nil, nil, true}, {"no moment and no sail", nil, nil, nil, true}, {"no sail", nil, atAngles(10), nil, false}, {"one moment", byAngles(0, 90), atAngles(10), []int{0}, true}, {"one that does not fit", byAngles(0, 90), atAngles(96), nil, false},
		{"one after the other", byAngles(0, 50, 40, 100, 90, 150), atAngles(10, 45, 70, 95, 140), []int{0, 0, 1, 1, 2}, true}, {"the same, sails turned", byAngles(90, 150, 40, 100, 0, 50), atAngles(10, 45, 70, 95, 140), []int{2, 2, 1, 1, 0}, true},
		// The longest run counts, wherever its sail is, and not the one that ends last or fits most.
		{"the last one", byAngles(0, 20, 0, 40, 0, 60), atAngles(10, 30, 50), []int{2, 2, 2}, true}, {"the first one", byAngles(0, 60, 0, 40, 0, 20), atAngles(10, 30, 50), []int{0, 0, 0}, true}, {"the one between", byAngles(0, 20, 0, 60, 0, 40), atAngles(10, 30, 50, 70), nil, false}, {"the one between, and another one", byAngles(0, 20, 0, 60, 70, 90), atAngles(10, 30, 50, 70), []int{1, 1, 1, 2}, true},
		// Behind a moment that a sail does not fit, its run is over.
		{"a gap", byAngles(0, 20, 0, 40), atAngles(10, 40, 10, 10, 10), []int{1, 1, 1, 1, 1}, true}, {"a gap in a longer one", byAngles(0, 20, 10, 50, 60, 90), atAngles(10, 30, 70, 10, 10), []int{1, 1, 2, 0, 0}, true}, {"more moments, but with a gap", byAngles(0, 20, 10, 40), atAngles(10, 40, 2, 2, 2, 2), []int{1, 1, 0, 0, 0, 0}, true},
		// Of runs of the same length the first sail is taken.
		{"alike", byAngles(0, 90, 0, 90, 0, 90), atAngles(10, 20), []int{0, 0}, true}, {"alike behind a shorter one", byAngles(0, 10, 0, 90, 0, 90), atAngles(10, 20), []int{1, 1}, true}, {"alike for these moments", byAngles(30, 40, 0, 60, 0, 180), atAngles(10, 60), []int{1, 1}, true}, {"alike at the end", byAngles(0, 90, 60, 90, 100, 180), atAngles(80, 120, 80), []int{0, 2, 0}, true}, {"alike, but the other one goes on", byAngles(0, 20, 0, 40), atAngles(10, 10, 35), []int{1, 1, 1}, true},
		// In the wider sense alone, by both ends.
		{"wider", byAngles(20, 40, 50, 70), atAngles(15, 45), []int{0, 0}, true}, {"beyond that", byAngles(20, 40, 50, 70), atAngles(14, 45), nil, false}, {"a longer run in the wider sense", byAngles(20, 40, 45, 70), atAngles(40, 45, 46), []int{1, 1, 1}, true}, {"one degree more", byAngles(20, 40, 45, 70), atAngles(39, 45, 46), []int{0, 0, 1}, true},
		// She comes back to a sail.
		{"there and back", byAngles(0, 40, 60, 90), atAngles(10, 70, 10, 70, 70, 10), []int{0, 1, 0, 1, 1, 0}, true}, {"she could have kept it", byAngles(0, 40, 0, 90), atAngles(10, 70, 10, 70, 70, 10), []int{1, 1, 1, 1, 1, 1}, true},
		// There is a moment that no sail fits.
		{"at first", byAngles(0, 40, 60, 90), atAngles(50, 10, 10), nil, false}, {"in the middle", byAngles(0, 40, 60, 90), atAngles(10, 50, 10), nil, false}, {"at last", byAngles(0, 40, 60, 90), atAngles(10, 10, 50), nil, false}, {"everywhere", byAngles(0, 40, 60, 90), atAngles(50, 50, 50), nil, false},
		{"NaN", byAngles(0, 180), []impl.Moment{moment(10, 90), moment(float32(math.NaN()), 90)}, nil, false}, {"infinite", byAngles(0, 180), []impl.Moment{moment(float32(math.Inf(1)), 90)}, nil, false}, {"the least angle", byAngles(0, 180), atAngles(90, math.MinInt), nil, false}, {"the greatest angle", byAngles(0, 180), atAngles(math.MaxInt, 90), nil, false},
		{"by speeds", []impl.Sail{cut("a", 0, 5, 0, 180), cut("b", 4, 9, 0, 180), cut("c", 11, 20, 0, 180)}, []impl.Moment{moment(0, 9), moment(6, 9), moment(next(6), 9), moment(10, 9), moment(next(10), 9), moment(21, 9)}, []int{0, 0, 1, 1, 2, 2}, true},
	}
	for _, c := range cases {
		if got, ok := checkFewest(t, c.sails, c.moments); ok != c.ok || !slices.Equal(got, c.want) {
			t.Errorf("%s: %v %v, want %v %v", c.name, got, ok, c.want, c.ok)
		}
	}
}

// plansOf calls see with each plan of n numbers from low to high.
func plansOf(n, low, high int, see func(plan []int)) {
	plan := repeat(low, n)
	for {
		see(plan)
		i := 0
		for i < n && plan[i] == high {
			plan[i] = low
			i++
		}
		if i == n {
			return
		}
		plan[i]++
	}
}

// Against every plan that there is, also such as have numbers that are no index.
func TestFewestChangesAgainstEveryPlan(t *testing.T) {
	d, told, none, changed := dice(114), 0, 0, [5]int{}
	for i := range 3000 {
		n := 1 + i%4
		list := wildSails(&d, n, 3+d.upTo(5))
		moments := wildMoments(&d, list, d.upTo([]int{7, 9, 8, 7}[n-1]), 5+d.upTo(40))
		plan, ok := checkFewest(t, list, moments)
		least, fine := 99, false
		plansOf(len(moments), -1, n, func(other []int) {
			if impl.PlanOk(list, moments, other) {
				least, fine = min(least, impl.Changes(other)), true
			}
		})
		covered := true
		for _, m := range moments {
			covered = covered && slices.ContainsFunc(list, func(s impl.Sail) bool { return impl.FitsWide(s, m) })
		}
		if ok != fine || ok != covered || ok && impl.Changes(plan) != least {
			t.Fatalf("FewestChanges(%v, %v): %v %v, but the fewest changes are %d %v", list, moments, plan, ok, least, fine)
		}
		if ok {
			told++
			changed[min(least, 4)]++
		} else {
			none++
		}
	}
	if told < 1000 || none < 300 || changed[0] < 300 || changed[1] < 300 || changed[2] < 100 || changed[3] < 20 {
		t.Error("only few plans are told, or none, or have changes:", told, none, changed)
	}
}

// As many sails and moments as may be, against the fewest changes that each sail is reached with.
func TestFewestChangesOfManySails(t *testing.T) {
	d, told, none, changes, same := dice(115), 0, 0, 0, 0
	for i := range 3000 {
		list := wildSails(&d, []int{1, 2, 4, 8, 11, 12}[i%6], 3+d.upTo(8))
		moments := wildMoments(&d, list, []int{1, 10, 30, 59, 60}[i%5], 20+d.upTo(400))
		plan, ok := checkFewest(t, list, moments)
		if !ok {
			none++
			continue
		}
		told++
		changes += impl.Changes(plan)
		if slices.Equal(plan, impl.RunSails(list, -1, moments)) {
			same++
		}
	}
	if told < 1500 || none < 300 || changes < 4*told || same > told/2 {
		t.Error("only few plans are told, or none, or have changes, or differ from what is kept:", told, none, changes, same)
	}
}

// A sail more never makes for more changes, nor does a moment less.
func TestFewestChangesWithOneMore(t *testing.T) {
	d, fewer := dice(116), 0
	for range 500 {
		list := wildSails(&d, 2+d.upTo(11), 8)
		moments := wildMoments(&d, list, 30, 1000)
		all, ok := checkFewest(t, list, moments)
		if less, fine := checkFewest(t, list[:len(list)-1], moments); fine && (!ok || impl.Changes(less) < impl.Changes(all)) {
			t.Fatalf("%v at %v: %v, and with a sail less %v", list, moments, all, less)
		} else if fine && impl.Changes(less) > impl.Changes(all) {
			fewer++
		}
		if start, fine := checkFewest(t, list, moments[:29]); ok && (!fine || impl.Changes(start) > impl.Changes(all)) {
			t.Fatalf("%v at %v: %v, and with a moment less %v", list, moments, all, start)
		}
	}
	if fewer < 20 {
		t.Error("only few sails make for fewer changes:", fewer)
	}
}

// No moment, one, as many as may be, and one more: with one sail for all of them, and with one for each
// second one.
func TestFewestChangesOfManyMoments(t *testing.T) {
	for n := range impl.MaxMoments + 20 {
		alike, changing := slices.Repeat(atAngles(10), n), slices.Repeat(atAngles(10, 70), n)[:n]
		all, turns := repeat(0, n), slices.Repeat([]int{0, 1}, n)[:n]
		if n > 60 {
			all, turns = nil, nil
		}
		if got, ok := checkFewest(t, byAngles(0, 40, 60, 90), alike); ok != (n <= 60) || !slices.Equal(got, all) || impl.Changes(got) != 0 {
			t.Errorf("%d alike moments: %v %v", n, got, ok)
		}
		if got, ok := checkFewest(t, byAngles(0, 40, 60, 90), changing); ok != (n <= 60) || !slices.Equal(got, turns) || impl.Changes(got) != max(0, len(turns)-1) {
			t.Errorf("%d moments that change: %v %v", n, got, ok)
		}
		if got, ok := checkFewest(t, byAngles(0, 40, 0, 90), changing); ok != (n <= 60) || impl.Changes(got) != 0 {
			t.Errorf("%d moments that one sail fits: %v %v", n, got, ok)
		}
		if n > 60 {
			continue
		}
		// A run up to each moment, and one from there to the end.
		for k := range n {
			moments := append(slices.Repeat(atAngles(10), k), slices.Repeat(atAngles(70), n-k)...)
			if got, ok := checkFewest(t, byAngles(60, 90, 0, 40), moments); !ok || !slices.Equal(got, append(repeat(1, k), repeat(0, n-k)...)) {
				t.Errorf("%d moments, changing at %d: %v %v", n, k, got, ok)
			}
			moments[k].Angle = 50
			if got, ok := checkFewest(t, byAngles(60, 90, 0, 40), moments); ok || len(got) != 0 {
				t.Errorf("%d moments, of which %d fits no sail: %v %v", n, k, got, ok)
			}
		}
	}
}

// Of sails that are alike but for their names, the first one is taken, whichever the names are.
func TestFewestChangesOfAlikeSails(t *testing.T) {
	d := dice(117)
	for range 300 {
		one := wildSails(&d, 3, 6)
		moments := wildMoments(&d, one, 20, 1000)
		twice := append(slices.Clone(one), one...)
		for i := range twice {
			twice[i].Name = locker(6)[5-i].Name
		}
		plan, ok := checkFewest(t, one, moments)
		if got, fine := checkFewest(t, twice, moments); fine != ok || !slices.Equal(got, plan) {
			t.Fatalf("%v at %v: %v %v, and with each sail twice %v %v", one, moments, plan, ok, got, fine)
		}
	}
}

func TestChangesOfSmallNumbers(t *testing.T) {
	cases := []struct {
		plan []int
		want int
	}{
		{nil, 0}, {[]int{}, 0}, {[]int{0}, 0}, {[]int{-1}, 0}, {[]int{7}, 0}, {[]int{0, 0}, 0}, {[]int{0, 1}, 1}, {[]int{1, 0}, 1}, {[]int{0, 1, 1}, 1}, {[]int{0, 0, 1}, 1}, {[]int{0, 1, 0}, 2}, {[]int{0, 1, 2}, 2}, {[]int{3, 3, 3, 3}, 0}, {[]int{3, 3, 4, 3, 3}, 2}, {[]int{5, 4, 4, 4, 4, 9, 9, 5}, 3},
		// Numbers that are no index count as they are.
		{[]int{-1, -1, -2, -2}, 1}, {[]int{1, -1}, 1}, {[]int{0, 1 << 32}, 1}, {[]int{math.MinInt, math.MaxInt, math.MinInt}, 2}, {[]int{math.MaxInt, math.MaxInt}, 0}, {[]int{math.MinInt, math.MinInt, 0}, 1}, {[]int{-1 << 63, 0, -1 << 63, 0}, 3}, {[]int{1 << 62, -1 << 62}, 1},
	}
	for _, c := range cases {
		if got := checkChanges(t, c.plan); got != c.want {
			t.Errorf("Changes(%v): %d, want %d", c.plan, got, c.want)
		}
	}
	for n := range 300 {
		if got := checkChanges(t, repeat(3, n)); got != 0 {
			t.Errorf("%d alike: %d", n, got)
		}
		if got := checkChanges(t, ascending(-5, n)); got != max(0, n-1) {
			t.Errorf("%d that change each time: %d", n, got)
		}
	}
	d := dice(118)
	for range 2000 {
		plan := []int{}
		for range d.upTo(100) {
			plan = append(plan, d.upTo(3)-1)
		}
		checkChanges(t, plan)
	}
}

func TestPlanOkOfSmallNumbers(t *testing.T) {
	list, moments := byAngles(0, 50, 40, 100, 90, 150), atAngles(10, 45, 70, 95, 140)
	cases := []struct {
		plan []int
		want bool
	}{
		{[]int{0, 0, 1, 1, 2}, true}, {[]int{0, 1, 1, 1, 2}, true}, {[]int{0, 0, 1, 2, 2}, true}, {[]int{0, 1, 1, 2, 2}, true},
		{[]int{1, 0, 1, 1, 2}, false}, {[]int{0, 2, 1, 1, 2}, false}, {[]int{0, 0, 0, 1, 2}, false}, {[]int{0, 0, 2, 1, 2}, false}, {[]int{0, 0, 1, 0, 2}, false}, {[]int{0, 0, 1, 1, 1}, false}, {[]int{2, 1, 1, 0, 0}, false},
		// Shorter, longer, and none.
		{[]int{0, 0, 1, 1}, false}, {[]int{0, 1, 1, 2}, false}, {[]int{0, 0, 1, 1, 2, 2}, false}, {[]int{0}, false}, {nil, false}, {append([]int{0, 0, 1, 1, 2}, repeat(0, 60)...), false},
		{[]int{-1, 0, 1, 1, 2}, false}, {[]int{0, 0, 1, 1, 3}, false}, {[]int{0, 0, -1, 1, 2}, false},
	}
	for _, c := range cases {
		if got := checkPlan(t, list, moments, c.plan); got != c.want {
			t.Errorf("%v: %v", c.plan, got)
		}
	}
	for _, c := range []struct {
		name    string
		sails   []impl.Sail
		moments []impl.Moment
		plan    []int
		want    bool
	}{
		{"nothing", nil, nil, nil, true}, {"sails alone", list, nil, []int{}, true}, {"a number alone", list, nil, []int{0}, false}, {"no sail", nil, atAngles(10), []int{0}, false}, {"no sail, and none set", nil, atAngles(10), []int{-1}, false}, {"one", list, atAngles(10), []int{0}, true}, {"in the wider sense", list, atAngles(155, 85, -5), []int{2, 2, 0}, true}, {"beyond that", list, atAngles(155, 84, -5), []int{2, 2, 0}, false},
	} {
		if got := checkPlan(t, c.sails, c.moments, c.plan); got != c.want {
			t.Errorf("%s: %v", c.name, got)
		}
	}
}

// Numbers that are no index, and moments that a sail does not fit, are seen at each place.
func TestPlanOkAtEachMoment(t *testing.T) {
	list := byAngles(0, 90, 0, 90, 100, 180)
	for n := range impl.MaxMoments + 20 {
		moments := slices.Repeat(atAngles(50), n)
		if got := checkPlan(t, list, moments, slices.Repeat([]int{1, 0, 0}, n)[:n]); got != (n <= 60) {
			t.Errorf("%d moments: %v", n, got)
		}
		for _, other := range []int{n - 1, n + 1, n / 2, 2*n + 1, 0} {
			if other >= 0 && other != n && checkPlan(t, list, moments, repeat(0, other)) {
				t.Errorf("%d moments and %d numbers", n, other)
			}
		}
		if n != 1 && n != 2 && n != 7 && n != impl.MaxMoments {
			continue
		}
		for i := range n {
			for _, at := range append(noIndexes(len(list)), 2) {
				plan := repeat(1, n)
				plan[i] = at
				if checkPlan(t, list, moments, plan) {
					t.Errorf("%d at %d of %d", at, i, n)
				}
			}
			other := slices.Clone(moments)
			other[i].Angle = 96
			if checkPlan(t, list, other, repeat(1, n)) {
				t.Errorf("a moment that does not fit at %d of %d", i, n)
			}
		}
	}
}

func TestPlanOkFollowsItsRule(t *testing.T) {
	d, fits := dice(119), 0
	for range 3000 {
		list := wildSails(&d, 1+d.upTo(impl.MaxSails), 8)
		moments := wildMoments(&d, list, 1+d.upTo(12), 1000)
		plan, _ := impl.FewestChanges(list, moments)
		// Some numbers are others, which may fit as well.
		for range d.upTo(3) {
			if len(plan) > 0 {
				plan[d.upTo(len(plan))] = d.upTo(len(list)+2) - 1
			}
		}
		if checkPlan(t, list, moments, plan) {
			fits++
		}
	}
	if fits < 800 || fits > 2200 {
		t.Error("plans that fit:", fits)
	}
}

// Of a list that is not valid no plan is told, and none fits, also none of the sails that would fit.
func TestPlansOfListsThatAreNotValid(t *testing.T) {
	moments := slices.Repeat([]impl.Moment{moment(10, 90), moment(10.5, 100), moment(5, 60)}, 21)
	for name, list := range brokenLockers() {
		for _, n := range []int{0, 1, 2, 3, 60, 61, 63} {
			if got, ok := checkFewest(t, list, moments[:n]); ok || len(got) != 0 {
				t.Errorf("%s, %d moments: %v %v", name, n, got, ok)
			}
			for _, at := range []int{0, len(list) / 2, len(list) - 1} {
				if checkPlan(t, list, moments[:n], repeat(at, n)) {
					t.Errorf("%s, %d moments: a plan", name, n)
				}
			}
		}
	}
}
