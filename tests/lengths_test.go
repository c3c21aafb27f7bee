package tests

import (
	"fmt"
	"math"
	"math/big"
	"slices"
	"testing"

	"loop.example/g01043/impl"
)

// totalOf returns the sum of all lengths.
func totalOf(list []int64) int64 {
	var total int64
	for _, x := range list {
		total += x
	}
	return total
}

// repeated returns count times the same length.
func repeated(x int64, count int) []int64 { return slices.Repeat([]int64{x}, count) }

func TestGradeLengths(t *testing.T) {
	tenth := make([]int64, 20)
	tenth[9] = 1
	for _, x := range []struct {
		list []int64
		sum  int64
		want []int64
	}{
		{[]int64{100, 100, 100}, 310, []int64{103, 104, 103}},
		{[]int64{100, 100, 100}, 300, []int64{100, 100, 100}},
		{[]int64{100, 100, 100}, 299, []int64{100, 99, 100}},
		{[]int64{100, 100, 100}, 2, []int64{1, 0, 1}},
		{[]int64{100, 100, 100}, 1, []int64{0, 1, 0}},
		{[]int64{7}, 1, []int64{1}}, {[]int64{1}, 1, []int64{1}}, {[]int64{1}, 1000000, []int64{1000000}}, {[]int64{10000}, 1, []int64{1}}, {[]int64{10000}, 1000000, []int64{1000000}},
		// Halves go up: the first one of two gets what is left.
		{[]int64{1, 1}, 1, []int64{1, 0}}, {[]int64{1, 1}, 3, []int64{2, 1}}, {[]int64{10000, 10000}, 999999, []int64{500000, 499999}}, {[]int64{1, 3}, 2, []int64{1, 1}}, {[]int64{3, 1}, 2, []int64{2, 0}}, {[]int64{1, 1, 1, 1}, 2, []int64{1, 0, 1, 0}}, {[]int64{1, 2, 1}, 2, []int64{1, 1, 0}}, {[]int64{1, 1, 1, 1}, 6, []int64{2, 1, 2, 1}},
		{repeated(1, 20), 1, tenth}, {repeated(10000, 20), 1, tenth}, {repeated(1, 20), 20, repeated(1, 20)}, {repeated(1, 20), 1000000, repeated(50000, 20)}, {repeated(10000, 20), 1000000, repeated(50000, 20)}, {repeated(10000, 20), 200000, repeated(10000, 20)},
		{[]int64{1, 10000}, 1000000, []int64{100, 999900}}, {[]int64{10000, 1}, 1000000, []int64{999900, 100}}, {[]int64{1, 10000}, 1, []int64{0, 1}}, {[]int64{10000, 1}, 1, []int64{1, 0}}, {[]int64{1, 9999, 1}, 5000, []int64{0, 5000, 0}}, {[]int64{1, 9998, 1}, 5000, []int64{1, 4999, 0}},
		{[]int64{10, 20, 30, 40}, 7, []int64{1, 1, 2, 3}}, {[]int64{40, 30, 20, 10}, 7, []int64{3, 2, 1, 1}}, {[]int64{10, 20, 30, 40}, 1000, []int64{100, 200, 300, 400}},
	} {
		got, code := impl.GradeLengths(x.list, x.sum)
		same(t, fmt.Sprint(x.list, " with the sum ", x.sum), []any{got, code}, []any{x.want, int64(impl.OK)})
	}
}

// gradedLengths grades with rational numbers.
func gradedLengths(list []int64, sum int64) []int64 {
	var want []int64
	var before int64
	for _, x := range list {
		from, to := big.NewRat(sum*before, totalOf(list)), big.NewRat(sum*(before+x), totalOf(list))
		want = append(want, nearestOf(to)-nearestOf(from))
		before += x
	}
	return want
}

// randomLengths returns 1 to 20 lengths, in some calls of the least and the greatest ones only, and a sum for them.
func randomLengths(n *numbers, i int64) ([]int64, int64) {
	list := lengthsOf(n, 1+i%20, 1, []int64{1, 3, 100, 10000}[i/20%4])
	if i%9 == 0 {
		for k := range list {
			list[k] = 1 + 9999*(list[k]%2)
		}
	}
	return list, n.from(1, []int64{int64(len(list)), 40, 4000, 1000000}[i/80%4])
}

func TestGradedLengthsHaveTheSum(t *testing.T) {
	var n numbers
	var zeros int
	for i := range int64(4000) {
		list, sum := randomLengths(&n, i)
		got, code := impl.GradeLengths(list, sum)
		name := fmt.Sprint(list, " with the sum ", sum)
		same(t, name, []any{got, code}, []any{gradedLengths(list, sum), int64(impl.OK)})
		same(t, "sum of "+name, totalOf(got), sum)
		if slices.Contains(got, 0) {
			zeros++
		}
		got, code = impl.GradeLengths(list, totalOf(list))
		same(t, name+" with its own sum", []any{got, code}, []any{list, int64(impl.OK)})
	}
	if zeros < 100 || zeros > 3900 {
		t.Errorf("%d lists have lengths of 0", zeros)
	}
}

func TestScaleLengthsAndScaleErrors(t *testing.T) {
	for _, x := range []struct {
		list     []int64
		num, den int64
		want     []int64
		errors   []impl.Fraction
	}{
		{[]int64{100, 105}, 11, 10, []int64{110, 116}, []impl.Fraction{fraction(0, 1), fraction(1, 2)}},
		{[]int64{1, 2, 3, 4, 5}, 1, 4, []int64{0, 1, 1, 1, 1}, []impl.Fraction{fraction(-1, 4), fraction(1, 2), fraction(1, 4), fraction(0, 1), fraction(-1, 4)}},
		{[]int64{1, 2, 3, 4, 5}, 1, 6, []int64{0, 0, 1, 1, 1}, []impl.Fraction{fraction(-1, 6), fraction(-1, 3), fraction(1, 2), fraction(1, 3), fraction(1, 6)}},
		{[]int64{1, 2, 3}, 2, 3, []int64{1, 1, 2}, []impl.Fraction{fraction(1, 3), fraction(-1, 3), fraction(0, 1)}},
		{[]int64{1, 3, 5}, 1, 2, []int64{1, 2, 3}, []impl.Fraction{fraction(1, 2), fraction(1, 2), fraction(1, 2)}},
		{[]int64{1, 3, 5}, 500, 1000, []int64{1, 2, 3}, []impl.Fraction{fraction(1, 2), fraction(1, 2), fraction(1, 2)}},
		{[]int64{1, 499, 500, 501, 1000, 9999, 10000}, 1, 1000, []int64{0, 0, 1, 1, 1, 10, 10}, []impl.Fraction{fraction(-1, 1000), fraction(-499, 1000), fraction(1, 2), fraction(499, 1000), fraction(0, 1), fraction(1, 1000), fraction(0, 1)}},
		{[]int64{1, 10000, 7}, 1000, 1, []int64{1000, 10000000, 7000}, []impl.Fraction{fraction(0, 1), fraction(0, 1), fraction(0, 1)}},
		{[]int64{1, 10000, 7}, 1, 1, []int64{1, 10000, 7}, []impl.Fraction{fraction(0, 1), fraction(0, 1), fraction(0, 1)}},
		{[]int64{1, 10000, 7}, 1000, 1000, []int64{1, 10000, 7}, []impl.Fraction{fraction(0, 1), fraction(0, 1), fraction(0, 1)}},
		{[]int64{10000, 500, 1}, 999, 1000, []int64{9990, 500, 1}, []impl.Fraction{fraction(0, 1), fraction(1, 2), fraction(1, 1000)}},
		{[]int64{10000, 500, 1}, 1000, 999, []int64{10010, 501, 1}, []impl.Fraction{fraction(-10, 999), fraction(499, 999), fraction(-1, 999)}},
		{[]int64{1}, 1, 1000, []int64{0}, []impl.Fraction{fraction(-1, 1000)}},
		{repeated(10000, 20), 1000, 1, repeated(10000000, 20), slices.Repeat([]impl.Fraction{fraction(0, 1)}, 20)},
		{repeated(10000, 20), 997, 993, repeated(10040, 20), slices.Repeat([]impl.Fraction{fraction(-280, 993)}, 20)},
	} {
		name := fmt.Sprint(x.list, " times ", x.num, " / ", x.den)
		got, code := impl.ScaleLengths(x.list, x.num, x.den)
		same(t, name, []any{got, code}, []any{x.want, int64(impl.OK)})
		errors, code := impl.ScaleErrors(x.list, x.num, x.den)
		same(t, "errors of "+name, []any{errors, code}, []any{x.errors, int64(impl.OK)})
	}
}

// TestScaledLengthsAreNearest compares lengths and errors with rational numbers; errors are never more than a half, and a half is never less than 0.
func TestScaledLengthsAreNearest(t *testing.T) {
	var n numbers
	var halves int
	half := big.NewRat(1, 2)
	for i := range int64(4000) {
		list, _ := randomLengths(&n, i)
		most := []int64{1, 12, 1000}[i%3]
		num, den := n.from(1, most), n.from(1, most)
		name := fmt.Sprint(list, " times ", num, " / ", den)
		var want []int64
		var errors []impl.Fraction
		for _, x := range list {
			exact := big.NewRat(x*num, den)
			want = append(want, nearestOf(exact))
			off := new(big.Rat).Sub(big.NewRat(nearestOf(exact), 1), exact)
			errors = append(errors, fraction(off.Num().Int64(), off.Denom().Int64()))
			if off.Cmp(half) == 0 {
				halves++
			}
		}
		got, code := impl.ScaleLengths(list, num, den)
		same(t, name, []any{got, code}, []any{want, int64(impl.OK)})
		gotten, code := impl.ScaleErrors(list, num, den)
		same(t, "errors of "+name, []any{gotten, code}, []any{errors, int64(impl.OK)})
		for _, e := range gotten {
			same(t, fmt.Sprint(e, " of ", name, " is more than -1/2 and at most 1/2"), 2*e.Num > -e.Den && 2*e.Num <= e.Den, true)
		}
	}
	if halves < 100 {
		t.Errorf("%d errors are a half", halves)
	}
}

func TestGradeSeam(t *testing.T) {
	for _, x := range []struct {
		a, b        []int64
		sum         int64
		left, right []int64
	}{
		{[]int64{100, 200}, []int64{150, 150}, 330, []int64{110, 220}, []int64{165, 165}},
		{[]int64{150, 150}, []int64{100, 200}, 330, []int64{165, 165}, []int64{110, 220}},
		{[]int64{300}, []int64{100, 100, 100}, 310, []int64{310}, []int64{103, 104, 103}},
		{[]int64{300}, []int64{100, 100, 100}, 1, []int64{1}, []int64{0, 1, 0}},
		{[]int64{1}, []int64{1}, 1000000, []int64{1000000}, []int64{1000000}},
		{[]int64{20}, repeated(1, 20), 30, []int64{30}, []int64{2, 1, 2, 1, 2, 1, 2, 1, 2, 1, 2, 1, 2, 1, 2, 1, 2, 1, 2, 1}},
		{[]int64{2, 2}, []int64{1, 3}, 3, []int64{2, 1}, []int64{1, 2}},
		{repeated(10000, 20), repeated(10000, 20), 1000000, repeated(50000, 20), repeated(50000, 20)},
	} {
		a, b, code := impl.GradeSeam(x.a, x.b, x.sum)
		same(t, fmt.Sprint(x.a, " and ", x.b, " with the sum ", x.sum), []any{a, b, code}, []any{x.left, x.right, int64(impl.OK)})
	}
}

// divided returns count lengths with a sum that is at least count, each one at most 10000.
func divided(n *numbers, count, sum int64) []int64 {
	var list []int64
	for left := count - 1; left >= 0; left-- {
		x := n.from(max(1, sum-10000*left), min(10000, sum-left))
		list = append(list, x)
		sum -= x
	}
	return list
}

// TestSidesOfSeamsStayEqual is for promise 5: sides with different numbers of edges have the same sum, before and after; what touches before still touches.
func TestSidesOfSeamsStayEqual(t *testing.T) {
	var n numbers
	for i := range int64(4000) {
		one, two := 1+i%20, n.from(1, 20)
		total := n.from(max(one, two), 10000*min(one, two))
		if i%3 == 0 {
			total = n.from(max(one, two), max(one, two)+30)
		}
		a, b := divided(&n, one, total), divided(&n, two, total)
		_, sum := randomLengths(&n, i)
		name := fmt.Sprint(a, " and ", b, " with the sum ", sum)
		left, right, code := impl.GradeSeam(a, b, sum)
		same(t, name, []any{left, right, code}, []any{gradedLengths(a, sum), gradedLengths(b, sum), int64(impl.OK)})
		same(t, "sums of "+name, []any{totalOf(left), totalOf(right)}, []any{sum, sum})
		checkEnds(t, name, ends(a, left), ends(b, right))

		left, right, code = impl.GradeSeam(a, b, total)
		same(t, name+" as before", []any{left, right, code}, []any{a, b, int64(impl.OK)})
	}
}

// ends returns for the end of each length before grading where it is after it, both from the beginning on.
func ends(before, after []int64) map[int64]int64 {
	at, places := int64(0), map[int64]int64{}
	var place int64
	for i := range min(len(before), len(after)) {
		at, place = at+before[i], place+after[i]
		places[at] = place
	}
	return places
}

func checkEnds(t *testing.T, name string, a, b map[int64]int64) {
	t.Helper()
	for at, place := range a {
		if other, ok := b[at]; ok {
			same(t, fmt.Sprint("end at ", at, " of ", name), other, place)
		}
	}
}

// TestSidesWithOtherSums has sides that are not equal before grading, though they would be after it.
func TestSidesWithOtherSums(t *testing.T) {
	for _, x := range []struct{ a, b []int64 }{
		{[]int64{100}, []int64{101}}, {[]int64{101}, []int64{100}}, {[]int64{100, 100}, []int64{100}}, {[]int64{100}, []int64{100, 1}}, {[]int64{1}, []int64{10000}}, {repeated(1, 20), repeated(1, 19)}, {repeated(10000, 20), repeated(10000, 19)}, {repeated(10000, 20), []int64{1}}, {[]int64{50, 50}, []int64{50, 51}}, {[]int64{1, 2, 3}, []int64{3, 2, 2}},
	} {
		for _, sum := range []int64{1, 100, 1000000} {
			a, b, code := impl.GradeSeam(x.a, x.b, sum)
			same(t, fmt.Sprint(x.a, " and ", x.b, " with the sum ", sum), []any{a, b, code}, []any{[]int64(nil), []int64(nil), int64(impl.ErrClash)})
		}
	}
}

// badLengths returns lists that cannot be graded.
func badLengths() [][]int64 {
	list := [][]int64{nil, {}, repeated(100, 21), repeated(1, 1000), repeated(0, 20)}
	for _, x := range []int64{0, -1, 10001, -100, 1 << 32, math.MinInt64, math.MaxInt64} {
		last := repeated(10000, 20)
		last[19] = x
		list = append(list, []int64{x}, []int64{x, 100}, []int64{100, x}, []int64{100, x, 100}, []int64{x, x, x}, last)
	}
	return list
}

// badSums are sums that no lengths get, badTimes are numbers by which none is multiplied or divided.
var (
	badSums  = []int64{0, -1, 1000001, -300, 1 << 32, math.MinInt64, math.MaxInt64}
	badTimes = []int64{0, -1, 1001, -1000, 1 << 32, math.MinInt64, math.MaxInt64}
)

// noLengths is what functions of lengths return beside a code.
var noLengths = []int64(nil)

// checkLengthsCodes expects ErrRange of all functions of one list.
func checkLengthsCodes(t *testing.T, list []int64, sum, num, den int64) {
	t.Helper()
	name := fmt.Sprint(list, " with ", sum, " and ", num, " / ", den)
	got, code := impl.GradeLengths(list, sum)
	same(t, "graded "+name, []any{got, code}, []any{noLengths, int64(impl.ErrRange)})
	got, code = impl.ScaleLengths(list, num, den)
	same(t, "scaled "+name, []any{got, code}, []any{noLengths, int64(impl.ErrRange)})
	errors, code := impl.ScaleErrors(list, num, den)
	same(t, "errors of "+name, []any{errors, code}, []any{[]impl.Fraction(nil), int64(impl.ErrRange)})
}

// checkSeamRange expects ErrRange for the sides of a seam, whichever comes first.
func checkSeamRange(t *testing.T, a, b []int64, sum int64) {
	t.Helper()
	for range 2 {
		left, right, code := impl.GradeSeam(a, b, sum)
		same(t, fmt.Sprint("seam of ", a, " and ", b, " with ", sum), []any{left, right, code}, []any{noLengths, noLengths, int64(impl.ErrRange)})
		a, b = b, a
	}
}

// TestErrorsOfLengths has each argument alone and together with others that are not in their ranges; lengths that are not are found before sides that differ.
func TestErrorsOfLengths(t *testing.T) {
	good := []int64{100, 200}
	for _, bad := range badLengths() {
		checkLengthsCodes(t, bad, 300, 1, 1)
		checkSeamRange(t, bad, bad, 300)
		checkSeamRange(t, good, bad, 300)
		checkSeamRange(t, good, bad, 0)
		checkSeamRange(t, repeated(1, 20), bad, 1)
		for i, x := range badTimes {
			checkLengthsCodes(t, bad, badSums[i], x, x)
		}
	}
	for _, sum := range badSums {
		for _, list := range [][]int64{good, {1}, {10000}, repeated(1, 20), repeated(10000, 20)} {
			got, code := impl.GradeLengths(list, sum)
			same(t, fmt.Sprint(list, " with the sum ", sum), []any{got, code}, []any{noLengths, int64(impl.ErrRange)})
			checkSeamRange(t, list, list, sum)
			checkSeamRange(t, list, []int64{77}, sum)
		}
	}
	for _, x := range badTimes {
		for _, y := range []int64{1, 1000, x} {
			for _, pair := range [][2]int64{{x, y}, {y, x}} {
				got, code := impl.ScaleLengths(good, pair[0], pair[1])
				same(t, fmt.Sprint("scaled by ", pair), []any{got, code}, []any{noLengths, int64(impl.ErrRange)})
				errors, code := impl.ScaleErrors(good, pair[0], pair[1])
				same(t, fmt.Sprint("errors by ", pair), []any{errors, code}, []any{[]impl.Fraction(nil), int64(impl.ErrRange)})
			}
		}
	}
}
