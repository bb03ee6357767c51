package tests

import (
	"slices"
	"testing"

	"loop.example/g03321/impl"
)

// toPort and toStarboard return a mark that is left to that side.
func toPort(x, y int) impl.Mark      { return impl.Mark{At: at(x, y)} }
func toStarboard(x, y int) impl.Mark { return impl.Mark{At: at(x, y), Starboard: true} }

// harbourLine returns a line from the west to the east. What crosses it from the south comes from
// behind it.
func harbourLine() impl.Line { return lineFrom(0, -10, 0, 10) }

// homeLine returns a line that is crossed on the way back to the south.
func homeLine() impl.Line { return lineFrom(20, 10, 20, -60) }

// courseOf returns a course from harbourLine to homeLine.
func courseOf(marks ...impl.Mark) impl.Course {
	return impl.Course{Start: harbourLine(), Marks: marks, Finish: homeLine()}
}

// zigzag returns a course of n marks, left to port and to starboard by turns.
func zigzag(n int) impl.Course {
	marks := []impl.Mark{}
	for k := range n {
		marks = append(marks, impl.Mark{At: at(100*k-900, 30*(k%3)), Starboard: k%2 == 1})
	}
	return courseOf(marks...)
}

// sparedCourse returns a copy of a course that has room behind its marks, and all of that room.
func sparedCourse(c impl.Course) (impl.Course, []impl.Mark) {
	whole := append(slices.Clone(c.Marks), toStarboard(-77, 78), impl.Mark{}, toPort(5, 6))
	spare := c
	spare.Marks = whole[:len(c.Marks)]
	return spare, whole
}

// checkSparedCourse checks that the course that sparedCourse copied, and the room behind its marks,
// is as it was.
func checkSparedCourse(t *testing.T, c impl.Course, whole []impl.Mark) {
	t.Helper()
	if _, want := sparedCourse(c); !slices.Equal(whole, want) {
		t.Fatalf("%v has become %v", want, whole)
	}
}

// goodCourses returns valid courses.
func goodCourses() []impl.Course {
	const edge = impl.MaxPlace
	list := []impl.Course{
		courseOf(toPort(100, -10)), courseOf(toStarboard(-edge, edge)), courseOf(toPort(edge, edge), toStarboard(-edge, -edge)), courseOf(toPort(1, -10)), courseOf(toPort(0, -9)),
		// Marks that are alike, but not one behind the other, or that lie at an end of a line.
		courseOf(toPort(5, 5), toPort(6, 6), toPort(5, 5)), courseOf(toPort(5, 5), toStarboard(6, 6), toStarboard(5, 5), toPort(6, 6)), courseOf(toPort(0, 10)), courseOf(toPort(0, 10), toPort(0, -10), toPort(0, 10)), courseOf(toPort(20, 10), toPort(20, -60)),
		// One line is start and finish, also from its other end.
		{Start: harbourLine(), Marks: []impl.Mark{toPort(300, 0)}, Finish: harbourLine()}, {Start: harbourLine(), Marks: []impl.Mark{toPort(300, 0)}, Finish: turnedLine(harbourLine())},
	}
	for n := 1; n <= impl.MaxMarks; n++ {
		list = append(list, zigzag(n))
	}
	for i, l := range goodLines() {
		start, finish := zigzag(1+i%5), zigzag(1+i%7)
		start.Start, finish.Finish = l, l
		list = append(list, start, finish)
	}
	return list
}

// brokenCourses returns courses that are not valid, by what they lack.
func brokenCourses() map[string]impl.Course {
	list := map[string]impl.Course{"nothing": {}, "no marks": courseOf(), "no list of marks": {Start: harbourLine(), Finish: homeLine()}, "one mark more than may be": zigzag(impl.MaxMarks + 1), "many marks": zigzag(impl.MaxMarks + 40)}
	for i, l := range brokenLines() {
		start, finish := zigzag(1+i%4), zigzag(1+i%4)
		start.Start, finish.Finish = l, l
		list["a start "+placeName(l.Port, l.Starboard)] = start
		list["a finish "+placeName(l.Port, l.Starboard)] = finish
	}
	for i, p := range brokenPlaces() {
		first, last := zigzag(1+i%impl.MaxMarks), zigzag(1+i%impl.MaxMarks)
		first.Marks[0].At, last.Marks[i%impl.MaxMarks].At = p, p
		list["a first mark "+placeName(p)] = first
		list["a last mark "+placeName(p)] = last
	}
	for _, n := range []int{1, 2, 5, impl.MaxMarks} {
		for k := range n {
			for _, starboard := range []bool{false, true} {
				c := zigzag(n)
				c.Marks[k].Starboard = starboard
				c.Marks[k].At = c.Start.Port
				if k > 0 {
					c.Marks[k].At = c.Marks[k-1].At
				}
				list["a mark at its origin: "+numbers(n, k)] = c
			}
		}
	}
	return list
}

// numbers returns numbers as a text.
func numbers(list ...int) string {
	text := ""
	for _, n := range list {
		text += " " + impl.FormatInt(n)
	}
	return text
}

// placeName returns places as a text.
func placeName(list ...impl.Place) string {
	text := ""
	for _, p := range list {
		text += numbers(p.X, p.Y)
	}
	return text
}

func TestLimitOfMarks(t *testing.T) {
	if impl.MaxMarks != 20 {
		t.Error("limit:", impl.MaxMarks)
	}
}

func TestCourseOkAtItsEdges(t *testing.T) {
	for _, c := range goodCourses() {
		given, whole := sparedCourse(c)
		if !impl.CourseOk(given) {
			t.Error("not valid:", c)
		}
		checkSparedCourse(t, c, whole)
	}
	for name, c := range brokenCourses() {
		given, whole := sparedCourse(c)
		if impl.CourseOk(given) {
			t.Error("valid:", name)
		}
		checkSparedCourse(t, c, whole)
	}
	for n := range 3 * impl.MaxMarks {
		if impl.CourseOk(zigzag(n)) != (n >= 1 && n <= 20) {
			t.Errorf("%d marks", n)
		}
	}
}

// Marks that are not valid are seen at each place, and so are ones at their origins; of a line, each
// part is looked at.
func TestCourseOkAtEachMark(t *testing.T) {
	for k := range impl.MaxMarks {
		for p, want := range map[impl.Place]bool{at(10000, -10000): true, at(-10000, 10000): true, at(10001, 0): false, at(-10001, 0): false, at(0, 10001): false, at(0, -10001): false} {
			c := zigzag(impl.MaxMarks)
			c.Marks[k].At = p
			if impl.CourseOk(c) != want {
				t.Errorf("%v at %d: %v", p, k, !want)
			}
		}
		c := zigzag(impl.MaxMarks)
		origin := c.Start.Port
		if k > 0 {
			origin = c.Marks[k-1].At
		}
		for aside, want := range map[impl.Place]bool{at(0, 0): false, at(1, 0): true, at(-1, 0): true, at(0, 1): true, at(0, -1): true} {
			c.Marks[k].At = at(origin.X+aside.X, origin.Y+aside.Y)
			if impl.CourseOk(c) != want {
				t.Errorf("%v from its origin at %d: %v", aside, k, !want)
			}
		}
	}
	// The other end of Start is no origin, and neither is one of Finish.
	for _, l := range []impl.Line{harbourLine(), homeLine()} {
		for _, p := range []impl.Place{l.Port, l.Starboard} {
			if c := courseOf(toPort(p.X, p.Y)); impl.CourseOk(c) != (p != harbourLine().Port) {
				t.Error("a course:", c)
			}
		}
	}
	// An origin that is not valid is no better for being another place than the mark.
	for _, p := range brokenPlaces() {
		c := zigzag(3)
		c.Start.Port = p
		if impl.CourseOk(c) {
			t.Error("valid:", c)
		}
	}
}
