package tests

import (
	"fmt"
	"testing"

	"loop.example/g01043/impl"
)

// same compares what was got with what was wanted as text, where nil and empty slices are equal.
func same(t *testing.T, name string, got, want any) {
	t.Helper()
	if g, w := fmt.Sprintf("%#v", plain(got)), fmt.Sprintf("%#v", plain(want)); g != w {
		t.Errorf("%s: got %s, want %s", name, g, w)
	}
}

// plain replaces empty slices by nil, also those in a list of results.
func plain(x any) any {
	switch s := x.(type) {
	case []any:
		all := make([]any, len(s))
		for i, y := range s {
			all[i] = plain(y)
		}
		return all
	case []impl.Last:
		if len(s) == 0 {
			return []impl.Last(nil)
		}
	case []impl.Fraction:
		if len(s) == 0 {
			return []impl.Fraction(nil)
		}
	case []int64:
		if len(s) == 0 {
			return []int64(nil)
		}
	case []string:
		if len(s) == 0 {
			return []string(nil)
		}
	case [][]int64:
		all := make([]any, len(s))
		for i, y := range s {
			all[i] = plain(y)
		}
		return all
	case int:
		return int64(s)
	}
	return x
}

// numbers is a row of numbers that look random, but are the same in every run.
type numbers uint64

// from returns the next number from low to high.
func (n *numbers) from(low, high int64) int64 {
	*n = *n*6364136223846793005 + 1442695040888963407
	return low + int64(uint64(*n)>>33)%(high-low+1)
}

func foot(length, ball, instep, heel int64) impl.Foot {
	return impl.Foot{Length: length, Ball: ball, Instep: instep, Heel: heel}
}

// long returns a foot with a length, and with other measures that never matter.
func long(length int64) impl.Foot { return foot(length, 2400, 2500, 3200) }

func longs(lengths ...int64) []impl.Foot {
	var list []impl.Foot
	for _, x := range lengths {
		list = append(list, long(x))
	}
	return list
}

// measuresOf returns pointers to the measures of a foot, in the order of the fields.
func measuresOf(f *impl.Foot) [4]*int64 {
	return [4]*int64{&f.Length, &f.Ball, &f.Instep, &f.Heel}
}

// feetOf returns count feet with measures from low to high.
func feetOf(n *numbers, count, low, high int64) []impl.Foot {
	var list []impl.Foot
	for range count {
		list = append(list, foot(n.from(low, high), n.from(low, high), n.from(low, high), n.from(low, high)))
	}
	return list
}

// daysOf returns count strictly increasing days from 0 to at most 10000, if step is small enough.
func daysOf(n *numbers, count, step int64) []int64 {
	var days []int64
	for day := n.from(0, step); int64(len(days)) < count; day += n.from(1, step) {
		days = append(days, day)
	}
	return days
}

func last(name string, length, ball, instep, heel, pitch int64) impl.Last {
	return impl.Last{Name: name, Length: length, Ball: ball, Instep: instep, Heel: heel, Pitch: pitch}
}

// measuresOfLast returns pointers to the measures of a last, in the order of the fields.
func measuresOfLast(x *impl.Last) [4]*int64 {
	return [4]*int64{&x.Length, &x.Ball, &x.Instep, &x.Heel}
}

// numbered returns the names a00, a01 and so on.
func numbered(i int64) string { return fmt.Sprintf("a%02d", i) }

// lastsOf returns count lasts with measures from low to high.
func lastsOf(n *numbers, count, low, high int64) []impl.Last {
	var list []impl.Last
	for i := range count {
		list = append(list, last(numbered(i), n.from(low, high), n.from(low, high), n.from(low, high), n.from(low, high), n.from(0, 1000)))
	}
	return list
}

func fit(low, high, girth int64, weights ...int64) impl.Fit {
	return impl.Fit{MinRoom: low, MaxRoom: high, Girth: girth, Weights: weights}
}

func grade(length, ball, instep, heel, pitch int64) impl.Grade {
	return impl.Grade{Length: length, Ball: ball, Instep: instep, Heel: heel, Pitch: pitch}
}

// numbersOf returns pointers to the numbers of a grade, in the order of the fields.
func numbersOf(g *impl.Grade) [5]*int64 {
	return [5]*int64{&g.Length, &g.Ball, &g.Instep, &g.Heel, &g.Pitch}
}

// graded returns pointers to the five measures of a last that grow, in the order of the fields.
func graded(x *impl.Last) [5]*int64 {
	return [5]*int64{&x.Length, &x.Ball, &x.Instep, &x.Heel, &x.Pitch}
}

// gradeOf returns a grade with numbers from low to high.
func gradeOf(n *numbers, low, high int64) impl.Grade {
	return grade(n.from(low, high), n.from(low, high), n.from(low, high), n.from(low, high), n.from(low, high))
}

// lengthsOf returns count lengths from low to high.
func lengthsOf(n *numbers, count, low, high int64) []int64 {
	var list []int64
	for range count {
		list = append(list, n.from(low, high))
	}
	return list
}
