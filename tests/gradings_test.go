package tests

import (
	"fmt"
	"math"
	"math/big"
	"strings"
	"testing"

	"loop.example/g01043/impl"
)

func TestLimitsOfGradings(t *testing.T) {
	same(t, "MostSteps", impl.MostSteps, 30)
	same(t, "MaxGraded", impl.MaxGraded, 10000)
}

// goodGrades returns valid grades at the ends of all ranges.
func goodGrades() []impl.Grade {
	list := []impl.Grade{{}, grade(20000, 20000, 20000, 20000, 20000), grade(4233, 2500, 2501, 3000, 50), grade(1, 19999, 0, 20000, 10000)}
	for k := range 5 {
		for _, x := range []int64{1, 10000, 19999, 20000} {
			var g impl.Grade
			*numbersOf(&g)[k] = x
			list = append(list, g)
		}
	}
	return list
}

// badGrades returns grades of which one number is not valid.
func badGrades() []impl.Grade {
	var list []impl.Grade
	for k := range 5 {
		for _, x := range []int64{-1, 20001, -20000, math.MinInt64, math.MaxInt64} {
			g := grade(4233, 2500, 2501, 3000, 50)
			*numbersOf(&g)[k] = x
			list = append(list, g)
		}
	}
	return list
}

func TestValidGrade(t *testing.T) {
	for _, g := range goodGrades() {
		same(t, fmt.Sprint("is valid: ", g), impl.ValidGrade(g), true)
	}
	for _, g := range badGrades() {
		same(t, fmt.Sprint("is valid: ", g), impl.ValidGrade(g), false)
	}
}

// noLast and noSet are what functions return beside a code.
var (
	noLast = impl.Last{}
	noSet  = []impl.Last(nil)
)

// TestExampleOfGradings is the example of chapter 5.
func TestExampleOfGradings(t *testing.T) {
	x := last("derby", 2700, 2400, 2450, 3200, 250)
	y, code := impl.GradeLast(x, grade(4233, 0, 0, 0, 0), 3)
	same(t, "after 3 half sizes", []any{y, code}, []any{last("derby", 2827, 2400, 2450, 3200, 250), int64(impl.OK)})
}

func TestGradeLast(t *testing.T) {
	x := last("derby", 2700, 2400, 2450, 3200, 250)
	for _, y := range []struct {
		grade impl.Grade
		steps int64
		want  impl.Last
	}{
		{grade(4233, 2500, 2501, 3000, 50), 3, last("derby", 2827, 2475, 2525, 3290, 252)},
		{grade(4233, 2500, 2501, 3000, 50), 0, x},
		{grade(4233, 2500, 2501, 3000, 50), 1, last("derby", 2742, 2425, 2475, 3230, 251)},
		{grade(4233, 2500, 2501, 3000, 50), -1, last("derby", 2658, 2375, 2425, 3170, 250)},
		{grade(4233, 2500, 2501, 3000, 50), -3, last("derby", 2573, 2325, 2375, 3110, 249)},
		{grade(4233, 2500, 2501, 3000, 50), 30, last("derby", 3970, 3150, 3200, 4100, 265)},
		{grade(4233, 2500, 2501, 3000, 50), -30, last("derby", 1430, 1650, 1700, 2300, 235)},
		{impl.Grade{}, 30, x}, {impl.Grade{}, -30, x}, {impl.Grade{}, 0, x},
		{grade(20000, 20000, 20000, 20000, 20000), 3, last("derby", 3300, 3000, 3050, 3800, 850)},
		{grade(20000, 20000, 20000, 20000, 20000), -1, last("derby", 2500, 2200, 2250, 3000, 50)},
		{grade(20000, 20000, 20000, 20000, 20000), 0, x},
		{grade(20000, 19999, 1, 0, 99), 2, last("derby", 3100, 2800, 2450, 3200, 252)},
		{grade(7650, 0, 0, 0, 0), 30, last("derby", 4995, 2400, 2450, 3200, 250)},
		{grade(1, 2, 3, 4, 5), 30, last("derby", 2700, 2401, 2451, 3201, 252)},
		{grade(1, 2, 3, 4, 5), -30, last("derby", 2700, 2399, 2449, 3199, 249)},
	} {
		got, code := impl.GradeLast(x, y.grade, y.steps)
		same(t, fmt.Sprint("after ", y.steps, " with ", y.grade), []any{got, code}, []any{y.want, int64(impl.OK)})
	}
}

// TestHalvesOfGradeLast has each measure with numbers whose product is just a half, or just less or more, also below 0: halves go up.
func TestHalvesOfGradeLast(t *testing.T) {
	for _, x := range []struct{ number, steps, grown int64 }{
		{50, 1, 1}, {49, 1, 0}, {51, 1, 1}, {150, 1, 2}, {149, 1, 1}, {151, 1, 2}, {250, 1, 3}, {99, 1, 1}, {100, 1, 1}, {101, 1, 1}, {0, 1, 0}, {1, 1, 0},
		{50, -1, 0}, {49, -1, 0}, {51, -1, -1}, {150, -1, -1}, {149, -1, -1}, {151, -1, -2}, {250, -1, -2}, {99, -1, -1}, {100, -1, -1}, {101, -1, -1}, {0, -1, 0}, {1, -1, 0},
		{25, 2, 1}, {24, 2, 0}, {25, -2, 0}, {26, -2, -1}, {75, 2, 2}, {75, -2, -1}, {50, 3, 2}, {50, -3, -1}, {10, 5, 1}, {10, -5, 0}, {30, 5, 2}, {30, -5, -1},
		{5, 30, 2}, {5, -30, -1}, {15, 30, 5}, {15, -30, -4}, {2, 25, 1}, {2, -25, 0}, {6, 25, 2}, {6, -25, -1}, {1, 30, 0}, {1, -30, 0}, {50, 29, 15}, {50, -29, -14},
		{1950, 1, 20}, {1950, -1, -19}, {19950, 1, 200}, {19950, -1, -199}, {19949, 1, 199}, {19951, -1, -200}, {20000, 1, 200}, {20000, -1, -200}, {20000, 2, 400}, {20000, -2, -400},
	} {
		for k := range 5 {
			old := last("a", 2500, 2500, 2500, 2500, 500)
			want := old
			*graded(&want)[k] += x.grown
			var g impl.Grade
			*numbersOf(&g)[k] = x.number
			got, code := impl.GradeLast(old, g, x.steps)
			same(t, fmt.Sprint("measure ", k, " with ", x.number, " after ", x.steps), []any{got, code}, []any{want, int64(impl.OK)})
			set, code := impl.GradeSet(old, g, x.steps, x.steps)
			same(t, fmt.Sprint("set with measure ", k, " with ", x.number, " after ", x.steps), []any{set, code}, []any{[]impl.Last{want}, int64(impl.OK)})
		}
	}
}

// TestLastsThatAreNoLongerValid reaches the ends of all ranges just so, and passes them by one.
func TestLastsThatAreNoLongerValid(t *testing.T) {
	for k := range 5 {
		low, high := int64(500), int64(5000)
		if k == 4 {
			low, high = 0, 1000
		}
		for _, x := range []struct {
			from, number, steps int64
			ok                  bool
		}{
			{high, 0, 30, true}, {high, 49, 1, true}, {high, 50, 1, false}, {high, 1, 30, true}, {high, 2, 25, false}, {high, 100, -1, true}, {high, 20000, -2, true}, {high, 20000, 0, true}, {high, 20000, 1, false}, {high, 20000, 30, false},
			{high - 1, 149, 1, true}, {high - 1, 150, 1, false}, {high - 1, 50, 1, true}, {high - 30, 100, 30, true}, {high - 30, 102, 30, false}, {high - 30, 101, 30, true}, {high - 200, 20000, 1, true}, {high - 199, 20000, 1, false},
			{low, 0, -30, true}, {low, 50, -1, true}, {low, 51, -1, false}, {low, 1, -30, true}, {low, 2, -25, true}, {low, 2, -26, false}, {low, 100, 1, true}, {low, 20000, 2, true}, {low, 20000, 0, true}, {low, 20000, -1, false}, {low, 20000, -30, false},
			{low + 1, 150, -1, true}, {low + 1, 151, -1, false}, {low + 30, 100, -30, true}, {low + 30, 101, -30, true}, {low + 30, 102, -30, false}, {low + 200, 20000, -1, true}, {low + 199, 20000, -1, false},
		} {
			old := last("a", 2500, 2500, 2500, 2500, 500)
			*graded(&old)[k] = x.from
			var g impl.Grade
			*numbersOf(&g)[k] = x.number
			checkSteps(t, old, g, x.steps, x.ok)
		}
	}
}

// checkSteps calls the functions that grade a last by steps half sizes, and expects ErrFull unless ok.
func checkSteps(t *testing.T, x impl.Last, g impl.Grade, steps int64, ok bool) {
	t.Helper()
	name := fmt.Sprint(x, " after ", steps, " with ", g)
	want, set := []any{gradedLast(x, g, steps), int64(impl.OK)}, []any{[]impl.Last{gradedLast(x, g, steps)}, int64(impl.OK)}
	if !ok {
		want, set = []any{noLast, int64(impl.ErrFull)}, []any{noSet, int64(impl.ErrFull)}
	}
	y, code := impl.GradeLast(x, g, steps)
	same(t, name, []any{y, code}, want)
	list, code := impl.GradeSet(x, g, steps, steps)
	same(t, "set of "+name, []any{list, code}, set)
	list, code = impl.GradeSet(x, g, min(steps, 0), max(steps, 0))
	if ok {
		same(t, "length of the set up to "+name, []any{len(list), code}, []any{max(steps, -steps) + 1, int64(impl.OK)})
		return
	}
	same(t, "set up to "+name, []any{list, code}, set)
}

// gradedLast grades with rational numbers; the last that it returns need not be valid.
func gradedLast(x impl.Last, g impl.Grade, steps int64) impl.Last {
	for k, p := range graded(&x) {
		grown := big.NewRat(*numbersOf(&g)[k]*steps, 100)
		*p = nearestOf(grown.Add(grown, big.NewRat(*p, 1)))
	}
	return x
}

// TestGradedLasts compares lasts after all half sizes, and sets of all kinds, with what the document says; some are not valid.
func TestGradedLasts(t *testing.T) {
	var n numbers
	var full, fine int
	for i := range int64(200) {
		x := lastsOf(&n, 1, 1000, 4500)[0]
		g := gradeOf(&n, 0, []int64{20, 500, 5000, 20000}[i%4])
		g.Pitch = n.from(0, []int64{20, 500, 5000, 20000}[i%4]/5)
		valid := map[int64]bool{}
		for steps := int64(-30); steps <= 30; steps++ {
			want := []any{gradedLast(x, g, steps), int64(impl.OK)}
			valid[steps] = impl.ValidLasts([]impl.Last{want[0].(impl.Last)})
			fine++
			if !valid[steps] {
				want = []any{noLast, int64(impl.ErrFull)}
				full++
			}
			got, code := impl.GradeLast(x, g, steps)
			same(t, fmt.Sprint(x, " after ", steps, " with ", g), []any{got, code}, want)
		}
		for range 10 {
			from := n.from(-30, 30)
			to := n.from(from, 30)
			want, wanted := []impl.Last(nil), int64(impl.OK)
			for steps := from; steps <= to; steps++ {
				want = append(want, gradedLast(x, g, steps))
				if !valid[steps] {
					wanted = impl.ErrFull
				}
			}
			if wanted != impl.OK {
				want = nil
			}
			got, code := impl.GradeSet(x, g, from, to)
			same(t, fmt.Sprint(x, " from ", from, " to ", to, " with ", g), []any{got, code}, []any{want, wanted})
		}
	}
	if full < 1000 || full > fine-1000 {
		t.Errorf("of %d graded lasts, %d are not valid", fine, full)
	}
}

func TestGradeSet(t *testing.T) {
	x, g := last("derby", 2700, 2400, 2450, 3200, 250), grade(4233, 2500, 2500, 3000, 50)
	three := []impl.Last{x, last("derby", 2742, 2425, 2475, 3230, 251), last("derby", 2785, 2450, 2500, 3260, 251), last("derby", 2827, 2475, 2525, 3290, 252)}
	two := []impl.Last{last("derby", 2615, 2350, 2400, 3140, 249), last("derby", 2658, 2375, 2425, 3170, 250)}
	narrow := last("a", 505, 500, 500, 500, 0)
	for _, y := range []struct {
		last     impl.Last
		grade    impl.Grade
		from, to int64
		want     []impl.Last
		code     int64
	}{
		{x, g, 0, 3, three, impl.OK}, {x, g, 1, 3, three[1:], impl.OK}, {x, g, 0, 0, three[:1], impl.OK}, {x, g, 3, 3, three[3:], impl.OK}, {x, g, -2, -1, two, impl.OK}, {x, g, -2, 1, append(two[:2:2], three[:2]...), impl.OK},
		{x, impl.Grade{}, -1, 1, []impl.Last{x, x, x}, impl.OK}, {x, impl.Grade{}, 30, 30, []impl.Last{x}, impl.OK}, {x, impl.Grade{}, -30, -30, []impl.Last{x}, impl.OK},
		// Only the first one, only the last one, and both are not valid.
		{narrow, grade(200, 0, 0, 0, 0), -3, 0, nil, impl.ErrFull}, {narrow, grade(200, 0, 0, 0, 0), -2, 0, []impl.Last{last("a", 501, 500, 500, 500, 0), last("a", 503, 500, 500, 500, 0), narrow}, impl.OK},
		{last("a", 2500, 2500, 4996, 2500, 0), grade(0, 0, 200, 0, 0), 0, 3, nil, impl.ErrFull}, {last("a", 2500, 2500, 4996, 2500, 0), grade(0, 0, 200, 0, 0), 1, 2, []impl.Last{last("a", 2500, 2500, 4998, 2500, 0), last("a", 2500, 2500, 5000, 2500, 0)}, impl.OK},
		{last("a", 501, 2500, 2500, 2500, 999), grade(100, 0, 0, 0, 100), -2, 2, nil, impl.ErrFull}, {last("a", 501, 2500, 2500, 2500, 999), grade(100, 0, 0, 0, 100), -1, 1, []impl.Last{last("a", 500, 2500, 2500, 2500, 998), last("a", 501, 2500, 2500, 2500, 999), last("a", 502, 2500, 2500, 2500, 1000)}, impl.OK},
		// A last that is valid only before it has grown as far as the set begins.
		{narrow, grade(20000, 0, 0, 0, 0), 23, 30, nil, impl.ErrFull}, {narrow, grade(20000, 0, 0, 0, 0), 22, 22, []impl.Last{last("a", 4905, 500, 500, 500, 0)}, impl.OK}, {narrow, grade(20000, 0, 0, 0, 0), -30, -1, nil, impl.ErrFull},
	} {
		got, code := impl.GradeSet(y.last, y.grade, y.from, y.to)
		same(t, fmt.Sprint(y.last, " from ", y.from, " to ", y.to, " with ", y.grade), []any{got, code}, []any{y.want, y.code})
	}
}

// TestLongestSet has all half sizes, and reaches the least length, and the least and the greatest pitch.
func TestLongestSet(t *testing.T) {
	x, g := last("a", 2500, 2500, 2500, 2500, 500), grade(6666, 6650, 6600, 50, 1666)
	set, code := impl.GradeSet(x, g, -30, 30)
	same(t, "lasts", []any{len(set), code}, []any{int64(61), int64(impl.OK)})
	for i, y := range set {
		same(t, fmt.Sprint("last ", i), y, gradedLast(x, g, int64(i)-30))
	}
}

func TestGradeBetween(t *testing.T) {
	x := last("derby", 2700, 2400, 2450, 3200, 250)
	for _, y := range []struct {
		other impl.Last
		steps int64
		want  impl.Grade
	}{
		{last("derby", 2827, 2475, 2525, 3290, 252), 3, grade(4233, 2500, 2500, 3000, 67)},
		{last("other", 2827, 2475, 2525, 3290, 252), 3, grade(4233, 2500, 2500, 3000, 67)},
		{last("derby", 2827, 2475, 2525, 3290, 252), 1, grade(12700, 7500, 7500, 9000, 200)},
		{last("derby", 2827, 2475, 2525, 3290, 252), 30, grade(423, 250, 250, 300, 7)},
		{x, 1, impl.Grade{}}, {x, 30, impl.Grade{}}, {last("a", 2700, 2400, 2450, 3200, 250), 7, impl.Grade{}},
		{last("derby", 2900, 2600, 2650, 3400, 450), 1, grade(20000, 20000, 20000, 20000, 20000)},
		{last("derby", 5000, 5000, 5000, 5000, 1000), 30, grade(7667, 8667, 8500, 6000, 2500)},
		{last("derby", 2701, 2402, 2453, 3204, 255), 8, grade(13, 25, 38, 50, 63)},
		{last("derby", 2701, 2402, 2453, 3207, 265), 24, grade(4, 8, 13, 29, 63)},
		{last("derby", 2702, 2406, 2460, 3214, 251), 16, grade(13, 38, 63, 88, 6)},
	} {
		got, code := impl.GradeBetween(x, y.other, y.steps)
		same(t, fmt.Sprint("from ", x, " to ", y.other, " in ", y.steps), []any{got, code}, []any{y.want, int64(impl.OK)})
	}
}

// TestGradesThatAreNotValid has each measure with the greatest difference that a grade can have, with one more, and with less than 0.
func TestGradesThatAreNotValid(t *testing.T) {
	for k := range 5 {
		for _, x := range []struct{ difference, steps, number int64 }{
			{200, 1, 20000}, {201, 1, -1}, {199, 1, 19900}, {400, 2, 20000}, {401, 2, -1}, {600, 3, 20000}, {601, 3, -1}, {599, 3, 19967}, {1000, 5, 20000}, {1000, 4, -1}, {1000, 30, 3333}, {1000, 1, -1},
			{0, 1, 0}, {-1, 1, -1}, {-1, 30, -1}, {-1, 8, -1}, {-1000, 30, -1}, {-200, 1, -1}, {1, 30, 3}, {1, 1, 100}, {3, 8, 38}, {1, 8, 13}, {15, 24, 63},
		} {
			a, b := last("a", 2000, 2000, 2000, 2000, 0), last("b", 2000, 2000, 2000, 2000, 0)
			if x.difference < 0 {
				a.Pitch, b.Pitch = 1000, 1000
			}
			*graded(&b)[k] += x.difference
			var g impl.Grade
			*numbersOf(&g)[k] = x.number
			want := []any{g, int64(impl.OK)}
			if x.number < 0 {
				want = []any{impl.Grade{}, int64(impl.ErrState)}
			}
			got, code := impl.GradeBetween(a, b, x.steps)
			same(t, fmt.Sprint("from ", a, " to ", b, " in ", x.steps), []any{got, code}, want)
		}
	}
	short, long := last("a", 500, 500, 500, 500, 0), last("a", 5000, 5000, 5000, 5000, 1000)
	for steps := int64(1); steps <= 30; steps++ {
		want := []any{grade(0, 0, 0, 0, 0), int64(impl.ErrState)}
		if steps >= 23 {
			number := nearestOf(big.NewRat(450000, steps))
			want = []any{grade(number, number, number, number, nearestOf(big.NewRat(100000, steps))), int64(impl.OK)}
		}
		g, code := impl.GradeBetween(short, long, steps)
		same(t, fmt.Sprint("from the least to the greatest in ", steps), []any{g, code}, want)
		g, code = impl.GradeBetween(long, short, steps)
		same(t, fmt.Sprint("from the greatest to the least in ", steps), []any{g, code}, []any{impl.Grade{}, int64(impl.ErrState)})
	}
}

// TestGradesLeadFromLastToLast compares grades with rational numbers; each one leads from the one last to the other.
func TestGradesLeadFromLastToLast(t *testing.T) {
	var n numbers
	var none, some int
	for i := range int64(3000) {
		spread := []int64{0, 1, 10, 150, 900}[i%5]
		a, steps := lastsOf(&n, 1, 500, 4000)[0], n.from(1, 30)
		a.Pitch = n.from(0, 99)
		b, want := a, impl.Grade{}
		b.Name = "b"
		for k, p := range graded(&b) {
			*p += n.from(0, spread)
			if i%7 == 0 && k == int(i/7%4) {
				*p = max(500, *p-n.from(0, 2*spread))
			}
			*numbersOf(&want)[k] = nearestOf(big.NewRat(100*(*p-*graded(&a)[k]), steps))
		}
		g, code := impl.GradeBetween(a, b, steps)
		name := fmt.Sprint("from ", a, " to ", b, " in ", steps)
		if !impl.ValidGrade(want) {
			same(t, name, []any{g, code}, []any{impl.Grade{}, int64(impl.ErrState)})
			none++
			continue
		}
		same(t, name, []any{g, code}, []any{want, int64(impl.OK)})
		some++
		reached, code := impl.GradeLast(a, g, steps)
		reached.Name = "b"
		same(t, "reached "+name, []any{reached, code}, []any{b, int64(impl.OK)})
	}
	if none < 200 || some < 200 {
		t.Errorf("%d grades are not valid, %d are", none, some)
	}
}

func TestStepsFor(t *testing.T) {
	x := last("derby", 2700, 2400, 2450, 3200, 250)
	const none = 31
	for _, y := range []struct{ number, length, want int64 }{
		{4233, 2786, 3}, {4233, 2785, 2}, {4233, 2784, 2}, {4233, 2700, 0}, {4233, 2701, 1}, {4233, 2699, 0}, {4233, 2658, -1}, {4233, 2659, 0}, {4233, 2657, -1},
		{4233, 3970, 30}, {4233, 3971, none}, {4233, 3969, 30}, {4233, 5000, none}, {4233, 1430, -30}, {4233, 1431, -29}, {4233, 1429, -30}, {4233, 500, -30},
		{0, 2700, -30}, {0, 2701, none}, {0, 2699, -30}, {0, 500, -30}, {0, 5000, none},
		{20000, 2700, 0}, {20000, 2701, 1}, {20000, 2900, 1}, {20000, 2901, 2}, {20000, 2500, -1}, {20000, 5000, 12}, {20000, 500, -11}, {20000, 501, -10},
		// Halves go up, also before the last has become any longer.
		{50, 2701, 1}, {50, 2700, -1}, {50, 2699, -3}, {50, 2715, 29}, {50, 2716, none}, {50, 2685, -30}, {50, 2686, -29}, {1, 2700, -30}, {1, 2701, none}, {2, 2701, 25}, {2, 2700, -25}, {2, 2699, -30}, {49, 2701, 2}, {51, 2701, 1}, {51, 2700, 0},
	} {
		want := []any{y.want, int64(impl.OK)}
		if y.want == none {
			want = []any{int64(0), int64(impl.ErrNotFound)}
		}
		for _, g := range []impl.Grade{grade(y.number, 0, 0, 0, 0), grade(y.number, 20000, 20000, 20000, 20000)} {
			steps, code := impl.StepsFor(x, g, y.length)
			same(t, fmt.Sprint("half sizes with ", g, " for ", y.length), []any{steps, code}, want)
		}
	}
}

// TestStepsForAreTheLeastOnes tries all half sizes, also those after which a last is not valid.
func TestStepsForAreTheLeastOnes(t *testing.T) {
	var n numbers
	var none, least int
	for i := range int64(3000) {
		x := lastsOf(&n, 1, 500, 5000)[0]
		g := gradeOf(&n, 0, []int64{3, 100, 3000, 20000}[i%4])
		length := n.from(max(500, x.Length-g.Length/3), min(5000, x.Length+g.Length/3+3))
		if i%5 == 0 {
			length = min(5000, max(500, gradedLast(x, g, n.from(-30, 30)).Length+n.from(0, 1)))
		}
		want := []any{int64(0), int64(impl.ErrNotFound)}
		for steps := int64(30); steps >= -30; steps-- {
			if gradedLast(x, g, steps).Length >= length {
				want = []any{steps, int64(impl.OK)}
			}
		}
		steps, code := impl.StepsFor(x, g, length)
		same(t, fmt.Sprint("half sizes of ", x, " with ", g, " for ", length), []any{steps, code}, want)
		if code != impl.OK {
			none++
		} else if steps == -30 {
			least++
		}
	}
	if none < 100 || least < 100 || none+least > 2500 {
		t.Errorf("%d lengths are not reached, %d already after -30 half sizes", none, least)
	}
}

// badSteps are numbers of half sizes that no function takes.
var badSteps = []int64{-31, 31, -1000, 1000, 1 << 32, -1 << 32, math.MinInt64, math.MinInt64 + 1, math.MaxInt64 - 1, math.MaxInt64}

// checkGradingCodes calls all functions of a last and a grade with arguments for which they return a code.
func checkGradingCodes(t *testing.T, x impl.Last, g impl.Grade, steps, length, code int64) {
	t.Helper()
	name := fmt.Sprint(x, " after ", steps, " with ", g)
	y, one := impl.GradeLast(x, g, steps)
	same(t, name, []any{y, one}, []any{noLast, code})
	set, two := impl.GradeSet(x, g, steps, steps)
	same(t, "set of "+name, []any{set, two}, []any{noSet, code})
	set, three := impl.GradeSet(x, g, steps, 30)
	same(t, "set from "+name, []any{set, three}, []any{noSet, code})
	set, four := impl.GradeSet(x, g, -30, steps)
	same(t, "set up to "+name, []any{set, four}, []any{noSet, code})
	n, five := impl.StepsFor(x, g, length)
	same(t, fmt.Sprint("half sizes of ", x, " with ", g, " for ", length), []any{n, five}, []any{int64(0), code})
}

// TestErrorsOfGradings has each invalid argument alone, together with the others, and where the result would not be valid.
func TestErrorsOfGradings(t *testing.T) {
	x, g, most := last("a", 2600, 2390, 2500, 3200, 200), grade(4233, 2500, 2501, 3000, 50), grade(20000, 20000, 20000, 20000, 20000)
	for _, bad := range badLasts() {
		checkGradingCodes(t, bad, g, 1, 2600, impl.ErrInvalid)
		checkGradingCodes(t, bad, impl.Grade{}, 0, 5000, impl.ErrInvalid)
		checkGradingCodes(t, bad, impl.Grade{Heel: -1}, 31, 499, impl.ErrInvalid)
	}
	for _, bad := range badGrades() {
		checkGradingCodes(t, x, bad, 1, 2600, impl.ErrInvalid)
		checkGradingCodes(t, x, bad, 0, 5000, impl.ErrInvalid)
		checkGradingCodes(t, last("a", 500, 5000, 500, 5000, 1000), bad, 30, 5000, impl.ErrInvalid)
		for _, steps := range badSteps {
			checkGradingCodes(t, x, bad, steps, 499, impl.ErrInvalid)
			checkGradingCodes(t, noLast, bad, steps, 5001, impl.ErrInvalid)
		}
	}
	for _, steps := range badSteps {
		for _, length := range []int64{499, 5001, 0, -2600, math.MinInt64, math.MaxInt64} {
			checkGradingCodes(t, x, g, steps, length, impl.ErrRange)
			checkGradingCodes(t, x, impl.Grade{}, steps, length, impl.ErrRange)
			checkGradingCodes(t, x, most, steps, length, impl.ErrRange)
		}
	}
}

// TestErrorsOfGradeSet has ends that are in the wrong order, or not in their range.
func TestErrorsOfGradeSet(t *testing.T) {
	x := last("a", 2600, 2390, 2500, 3200, 200)
	for _, g := range []impl.Grade{{}, grade(4233, 2500, 2501, 3000, 50), grade(20000, 20000, 20000, 20000, 20000)} {
		for _, ends := range [][2]int64{{1, 0}, {0, -1}, {30, 29}, {30, -30}, {-29, -30}, {3, 1}, {0, 31}, {30, 31}, {31, 31}, {31, 32}, {-31, -30}, {-31, 30}, {-31, -31}, {-32, -31}, {31, 30}, {-30, -31}, {0, math.MaxInt64}, {0, math.MinInt64}, {math.MinInt64, 0}, {math.MaxInt64, 0}, {math.MinInt64, math.MaxInt64}, {math.MaxInt64, math.MinInt64}} {
			set, code := impl.GradeSet(x, g, ends[0], ends[1])
			same(t, fmt.Sprint("set from ", ends[0], " to ", ends[1], " with ", g), []any{set, code}, []any{noSet, int64(impl.ErrRange)})
			set, code = impl.GradeSet(x, impl.Grade{Pitch: 20001}, ends[0], ends[1])
			same(t, fmt.Sprint("set of no grade from ", ends[0], " to ", ends[1]), []any{set, code}, []any{noSet, int64(impl.ErrInvalid)})
			set, code = impl.GradeSet(noLast, g, ends[0], ends[1])
			same(t, fmt.Sprint("set of no last from ", ends[0], " to ", ends[1]), []any{set, code}, []any{noSet, int64(impl.ErrInvalid)})
		}
	}
}

// TestErrorsOfGradeBetween has each invalid argument alone, together with the others, and where the grade would not be valid.
func TestErrorsOfGradeBetween(t *testing.T) {
	a, b := last("a", 2600, 2390, 2500, 3200, 200), last("b", 2700, 2490, 2600, 3300, 200)
	noSteps := append([]int64{0, -1, -30}, badSteps...)
	for _, bad := range badLasts() {
		for _, pair := range [][2]impl.Last{{a, bad}, {bad, a}, {b, bad}, {bad, b}, {bad, bad}} {
			for _, steps := range append([]int64{1, 30}, noSteps...) {
				g, code := impl.GradeBetween(pair[0], pair[1], steps)
				same(t, fmt.Sprint("between ", pair, " in ", steps), []any{g, code}, []any{impl.Grade{}, int64(impl.ErrInvalid)})
			}
		}
	}
	for _, steps := range noSteps {
		for _, pair := range [][2]impl.Last{{a, b}, {b, a}, {a, a}} {
			g, code := impl.GradeBetween(pair[0], pair[1], steps)
			same(t, fmt.Sprint("between ", pair, " in ", steps), []any{g, code}, []any{impl.Grade{}, int64(impl.ErrRange)})
		}
	}
}

func TestGradeText(t *testing.T) {
	for s, g := range map[string]impl.Grade{
		"0/0/0/0/0":                     {},
		"4233/2500/2501/3000/50":        grade(4233, 2500, 2501, 3000, 50),
		"20000/20000/20000/20000/20000": grade(20000, 20000, 20000, 20000, 20000),
		"1/20/300/4000/19999":           grade(1, 20, 300, 4000, 19999),
		"20000/0/7/10/100":              grade(20000, 0, 7, 10, 100),
	} {
		same(t, "text of "+s, impl.GradeText(g), s)
		got, ok := impl.ReadGrade(s)
		same(t, "grade of "+s, []any{got, ok}, []any{g, true})
	}
	for _, g := range badGrades() {
		same(t, fmt.Sprint("text of ", g), impl.GradeText(g), "")
	}
}

func TestReadGradeReadsGradeText(t *testing.T) {
	var n numbers
	list := goodGrades()
	for i := range int64(1000) {
		list = append(list, gradeOf(&n, 0, []int64{9, 150, 20000}[i%3]))
	}
	for _, g := range list {
		got, ok := impl.ReadGrade(impl.GradeText(g))
		same(t, "grade", []any{got, ok}, []any{g, true})
	}
}

// noTextsOfGrades are almost texts of grades.
var noTextsOfGrades = []string{
	"", "/", "////", "/////", "1", "1/2/3/4", "1/2/3/4/", "/1/2/3/4", "1/2/3/4/5/", "/1/2/3/4/5", "1/2/3/4/5/6", "1//3/4/5", "1/2/3//5", "/2/3/4/5", "1/2/3/4/5/6/7", "1/2//3/4/5",
	"20001/2/3/4/5", "1/20001/3/4/5", "1/2/20001/4/5", "1/2/3/20001/5", "1/2/3/4/20001", "-1/2/3/4/5", "1/-2/3/4/5", "1/2/-3/4/5", "1/2/3/-4/5", "1/2/3/4/-5", "-0/0/0/0/0", "0/0/0/0/-0", "100000/0/0/0/0",
	"01/2/3/4/5", "1/2/3/4/05", "1/2/3/4/00", "+1/2/3/4/5", "1/2/3/4/+5", "1/2/3/4/x", "x/2/3/4/5", "1/2/3/4/5x", "1/2/3/4/0x5", "1.0/2/3/4/5", "1/2/3/4/5.", "1/2/3/4/1e3", "1/2/3/4/1_0",
	" 1/2/3/4/5", "1/2/3/4/5 ", "1 /2/3/4/5", "1/ 2/3/4/5", "1/2/3/4/5\n", "1/2/3/4/5\x00", "\x001/2/3/4/5", "1/2/3/4/\xff", "1/2/3/4/\u0665", "1 2 3 4 5", "1,2,3,4,5", "1\\2\\3\\4\\5", "1/2/3/4 5", "1-2-3-4-5",
	"18446744073709551617/2/3/4/5", "9223372036854775808/2/3/4/5", "-9223372036854775808/2/3/4/5", "1/2/3/4/9223372036854775807", "a 1/2/3/4/5", "1/2/3/4/5 a", "2500/2400/2500/3200", "2500/2400/2500/3200 pitch 200",
}

func TestReadGradeOfOthers(t *testing.T) {
	long := []string{strings.Repeat("1/", 50000) + "1", strings.Repeat("/", 100000), "1/2/3/4/" + strings.Repeat("5", 100000), strings.Repeat("0", 100000) + "/2/3/4/5"}
	for _, s := range append(long, noTextsOfGrades...) {
		got, ok := impl.ReadGrade(s)
		same(t, fmt.Sprintf("grade of %.60q", s), []any{got, ok}, []any{impl.Grade{}, false})
	}
}

// TestReadGradeOfAlmostAll changes, adds and removes each byte of a text: what is still read must have the changed text.
func TestReadGradeOfAlmostAll(t *testing.T) {
	text := "4233/0/20000/9/50"
	var n, none int
	for i := range len(text) + 1 {
		for b := range 256 {
			variants := []string{text[:i] + string([]byte{byte(b)}) + text[i:]}
			if i < len(text) {
				variants = append(variants, text[:i]+string([]byte{byte(b)})+text[i+1:], text[:i]+text[i+1:])
			}
			for _, s := range variants {
				n++
				g, ok := impl.ReadGrade(s)
				if !ok {
					none++
					same(t, fmt.Sprintf("grade of %q", s), g, impl.Grade{})
					continue
				}
				same(t, fmt.Sprintf("text of the grade of %q", s), []any{impl.GradeText(g), impl.ValidGrade(g)}, []any{s, true})
			}
		}
	}
	if none == 0 || none == n {
		t.Errorf("of %d texts, %d have no grade", n, none)
	}
}
