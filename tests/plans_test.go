package tests

import (
	"fmt"
	"math"
	"slices"
	"strings"
	"testing"

	"loop.example/g01043/impl"
)

// TestExampleOfHides is the example of the chapter.
func TestExampleOfHides(t *testing.T) {
	list := []impl.Cut{{Width: 2, Height: 1, Quality: 3, Worth: 5}, {Width: 1, Height: 1, Quality: 2, Worth: 4}}
	plan, worth, code := impl.BestPlan([]string{"aab"}, list)
	same(t, "best plan", []any{plan, worth, code}, []any{[]int64{0, 2}, int64(9), int64(impl.OK)})
	checkPlan(t, []string{"aab"}, list, plan, []string{"001"}, -1)
}

// goodFields counts the fields of a hide that are no flaws.
func goodFields(rows []string) int64 {
	letters := strings.Join(rows, "")
	return int64(len(letters) - strings.Count(letters, "x"))
}

// checkPlan checks all functions of plans; lines and fault are what painted has to return for the plan.
func checkPlan(t *testing.T, rows []string, list []impl.Cut, plan []int64, lines []string, fault int64) {
	t.Helper()
	name := fmt.Sprintf(" of %v for %v on %q", plan, list, rows)
	got, one := impl.PlanFault(rows, list, plan)
	same(t, "fault"+name, []any{got, one}, []any{fault, int64(impl.OK)})
	worth, two := impl.PlanWorth(rows, list, plan)
	share, three := impl.UsedShare(rows, list, plan)
	drawn, four := impl.PlanLines(rows, list, plan)
	results := []any{worth, two, share, three, drawn, four}
	if fault >= 0 {
		clash := int64(impl.ErrClash)
		same(t, "results"+name, results, []any{int64(0), clash, impl.Fraction{}, clash, []string(nil), clash})
		return
	}
	ok, used, all := int64(impl.OK), int64(0), goodFields(rows)
	for i, at := range plan {
		if at >= 0 {
			used += list[i].Width * list[i].Height
		}
	}
	want := []any{worthOf(list, plan), ok, impl.Fraction{}, int64(impl.ErrNotFound), lines, ok}
	if all > 0 {
		// Only in lowest terms does no number from 2 on divide both.
		num, den := used, all
		for d := int64(2); d <= den; d++ {
			for num%d == 0 && den%d == 0 {
				num, den = num/d, den/d
			}
		}
		want[2], want[3] = fraction(num, den), ok
	}
	same(t, "results"+name, results, want)
}

// full is the largest hide, without a fault.
const full = "aaaaaa aaaaaa aaaaaa aaaaaa aaaaaa aaaaaa"

func TestPlans(t *testing.T) {
	const three = "aab abc bcx"
	for _, x := range []struct {
		rows, list string
		plan       []int64
		lines      string
		fault      int64
	}{
		{"aab", "2x1q3=5 1x1q2=4", []int64{0, 2}, "001", -1}, {"aab", "2x1q3=5 1x1q2=4", []int64{0, 1}, "", 1}, {"aab", "2x1q3=5 1x1q2=4", []int64{0, 0}, "", 1}, {"aab", "2x1q3=5 1x1q2=4", []int64{-1, 2}, "aa1", -1}, {"aab", "2x1q3=5 1x1q2=4", []int64{0, -1}, "00b", -1}, {"aab", "2x1q3=5 1x1q2=4", []int64{-1, -1}, "aab", -1}, {"aab", "2x1q3=5 1x1q2=4", []int64{1, -1}, "", 0}, {"aab", "2x1q3=5 1x1q2=4", []int64{2, 0}, "", 0}, {"aab", "1x1q2=4 2x1q3=5", []int64{1, 0}, "", 1}, {"aab", "1x1q2=4 2x1q3=5", []int64{2, 0}, "110", -1},
		// No pieces, and none that is cut.
		{"aab", "", nil, "aab", -1}, {"x", "", nil, "x", -1}, {three, "", []int64{}, three, -1}, {"x", "1x1q1=5", []int64{-1}, "x", -1}, {"xx xx", "1x1q1=5 6x6q3=0", []int64{-1, -1}, "xx xx", -1}, {"x", "1x1q1=5", []int64{0}, "", 0}, {"xx xx", "6x6q3=0 1x1q1=5", []int64{-1, 3}, "", 1}, {full, "6x6q3=9 6x6q3=9 6x6q3=9 6x6q3=9", []int64{-1, -1, -1, -1}, full, -1},
		// Worth nothing.
		{"aab", "1x1q1=0", []int64{2}, "aa0", -1}, {"aab", "1x1q1=0 1x1q1=0", []int64{2, 2}, "", 1},
		// The quality of each field.
		{three, "1x1q3=1 1x1q2=1 1x1q1=1", []int64{0, 4, 7}, "0ab a1c b2x", -1}, {three, "2x2q2=1", []int64{0}, "00b 00c bcx", -1}, {three, "2x2q3=1", []int64{0}, "", 0}, {three, "2x2q2=1", []int64{1}, "", 0}, {three, "2x2q1=1", []int64{1}, "a00 a00 bcx", -1}, {three, "2x2q1=1", []int64{4}, "", 0}, {three, "1x1q1=1", []int64{8}, "", 0}, {three, "1x1q1=1 1x1q1=1", []int64{8, 8}, "", 0}, {three, "2x1q1=1", []int64{6}, "aab abc 00x", -1}, {three, "2x1q1=1", []int64{7}, "", 0},
		// Too far to the right, where the next row would be, and too far below.
		{"aaa aaa aaa", "2x1q1=1", []int64{2}, "", 0}, {"aaa aaa aaa", "2x1q1=1", []int64{1}, "a00 aaa aaa", -1}, {"aaa aaa aaa", "2x1q1=1", []int64{8}, "", 0}, {"aaa aaa aaa", "1x2q1=1", []int64{6}, "", 0}, {"aaa aaa aaa", "1x2q1=1", []int64{5}, "aaa aa0 aa0", -1}, {"aaa aaa aaa", "2x2q1=1", []int64{5}, "", 0}, {"aaa aaa aaa", "2x2q1=1", []int64{7}, "", 0}, {"aaa aaa aaa", "2x2q1=1", []int64{8}, "", 0}, {"aaa aaa aaa", "2x2q1=1", []int64{4}, "aaa a00 a00", -1}, {"aaa aaa aaa", "3x3q1=1", []int64{0}, "000 000 000", -1}, {"aaa aaa aaa", "3x3q1=1", []int64{1}, "", 0}, {"aaa aaa aaa", "3x3q1=1", []int64{3}, "", 0}, {"aaa aaa aaa", "4x1q1=1", []int64{0}, "", 0}, {"aaa aaa aaa", "1x4q1=1", []int64{0}, "", 0}, {"aaa aaa aaa", "6x6q1=1", []int64{0}, "", 0}, {"aaa aaa aaa", "1x6q1=1 1x1q1=1", []int64{8, 8}, "", 0},
		// Pieces that have one field in common, or touch each other.
		{"aaa aaa aaa", "2x2q1=1 2x2q1=2", []int64{0, 4}, "", 1}, {"aaa aaa aaa", "2x2q1=1 2x2q1=2", []int64{1, 3}, "", 1}, {"aaa aaa aaa", "2x2q1=1 2x2q1=2", []int64{4, 0}, "", 1}, {"aaa aaa aaa", "2x2q1=1 2x1q1=2 1x2q1=3", []int64{0, 6, 2}, "002 002 11a", -1}, {"aaa aaa aaa", "2x2q1=1 2x1q1=2 1x3q1=3", []int64{0, 6, 2}, "002 002 112", -1}, {"aaa aaa aaa", "2x2q1=1 3x1q1=2 1x3q1=3", []int64{0, 6, 2}, "", 2}, {"aaa aaa aaa", "3x3q1=1 1x1q1=2", []int64{0, 8}, "", 1}, {"aaa aaa aaa", "1x1q1=2 3x3q1=1", []int64{4, 0}, "", 1}, {"aaa aaa aaa", "3x1q1=1 1x3q1=2", []int64{3, 1}, "", 1}, {"aaa aaa aaa", "1x1q1=1 1x1q1=1", []int64{5, 5}, "", 1}, {"aaa aaa aaa", "1x1q1=1 1x1q1=1 1x1q1=1", []int64{5, -1, 5}, "", 2}, {"aaa aaa aaa", "1x1q1=1 1x1q1=1 1x1q1=1", []int64{-1, 5, 5}, "", 2}, {"aaa aaa aaa", "1x1q1=1 1x1q1=1 1x1q1=1 1x1q1=1", []int64{5, 4, 3, 5}, "", 3}, {"aaa aaa aaa", "1x1q1=1 1x1q1=1 1x1q1=1 1x1q1=1", []int64{5, 4, 3, 4}, "", 3},
		// Equal pieces that are exchanged.
		{"aaa aaa aaa", "1x2q1=1 1x2q1=1", []int64{0, 5}, "0aa 0a1 aa1", -1}, {"aaa aaa aaa", "1x2q1=1 1x2q1=1", []int64{5, 0}, "1aa 1a0 aa0", -1},
		// The first of several faults.
		{"aaa aaa aaa", "1x1q1=1 1x1q1=1 6x6q1=1 1x1q1=1", []int64{0, 0, 0, 0}, "", 1}, {"aaa aaa aaa", "1x1q1=1 6x6q1=1 1x1q1=1 1x1q1=1", []int64{0, 0, 0, 0}, "", 1}, {"aaa aaa aaa", "6x6q1=1 1x1q1=1 1x1q1=1 1x1q1=1", []int64{0, 0, 0, 0}, "", 0}, {"aax aaa aaa", "1x1q1=1 1x1q1=1 1x1q1=1 1x1q1=1", []int64{0, 1, 2, 1}, "", 2},
		// The largest hide.
		{full, "6x6q3=1000", []int64{0}, "000000 000000 000000 000000 000000 000000", -1}, {full, "6x6q3=1000", []int64{1}, "", 0}, {full, "6x6q3=1000", []int64{6}, "", 0}, {full, "6x6q3=1000", []int64{35}, "", 0}, {full, "1x1q3=1000", []int64{35}, "aaaaaa aaaaaa aaaaaa aaaaaa aaaaaa aaaaa0", -1}, {full, "3x3q3=1000 3x3q3=1000 3x3q3=1000 3x3q3=1000", []int64{0, 3, 18, 21}, "000111 000111 000111 222333 222333 222333", -1}, {full, "3x3q3=1000 3x3q3=1000 3x3q3=1000 3x3q3=1000", []int64{21, 18, 3, 0}, "333222 333222 333222 111000 111000 111000", -1}, {full, "3x3q3=1 3x3q3=1 3x3q3=1 3x3q3=1", []int64{0, 3, 18, 14}, "", 3}, {full, "6x1q3=1 1x5q3=2 5x5q3=3", []int64{0, 6, 7}, "000000 122222 122222 122222 122222 122222", -1}, {full, "1x6q3=1 6x1q3=2", []int64{5, 30}, "", 1}, {full, "6x5q3=1 6x1q3=2", []int64{0, 30}, "000000 000000 000000 000000 000000 111111", -1}, {full, "6x5q3=1 6x1q3=2", []int64{6, 0}, "111111 000000 000000 000000 000000 000000", -1},
		{"aaaaaa aaaaaa aaaaaa aaaaaa aaaaaa aaaaab", "6x6q3=1000", []int64{0}, "", 0}, {"aaaaaa aaaaaa aaaaaa aaaaaa aaaaaa aaaaax", "6x5q3=1000 5x1q3=1", []int64{0, 30}, "000000 000000 000000 000000 000000 11111x", -1}, {"xaaaaa aaaaaa aaaaaa aaaaaa aaaaaa aaaaaa", "5x6q1=1000 1x5q1=1", []int64{1, 6}, "x00000 100000 100000 100000 100000 100000", -1},
		{"a a a a a a", "1x3q3=1 1x3q3=1", []int64{3, 0}, "1 1 1 0 0 0", -1}, {"aaaaaa", "3x1q3=1 3x1q3=1", []int64{0, 2}, "", 1}, {"a", "1x1q3=1 1x1q3=1 1x1q3=1 1x1q3=1", []int64{-1, -1, -1, 0}, "3", -1},
	} {
		checkPlan(t, strings.Fields(x.rows), cuts(x.list), x.plan, strings.Fields(x.lines), x.fault)
	}
}

func TestUsedShare(t *testing.T) {
	for _, x := range []struct {
		rows, list string
		plan       []int64
		num, den   int64
	}{
		{"aab", "2x1q3=5 1x1q2=4", []int64{0, 2}, 1, 1}, {"aab", "2x1q3=5 1x1q2=4", []int64{0, -1}, 2, 3}, {"aab", "2x1q3=5 1x1q2=4", []int64{-1, 0}, 1, 3}, {"aab", "2x1q3=5 1x1q2=4", []int64{-1, -1}, 0, 1}, {"aab", "", nil, 0, 1}, {"c", "", nil, 0, 1},
		{"abcx", "1x1q1=0", []int64{2}, 1, 3}, {"abcx", "2x1q1=0", []int64{0}, 2, 3}, {"abcx", "3x1q1=0", []int64{0}, 1, 1}, {"xxxxxc", "1x1q1=0", []int64{5}, 1, 1}, {"abcx xabc", "2x1q1=0 1x1q1=0", []int64{0, 7}, 1, 2}, {"aa aa", "1x1q1=0 1x1q1=0", []int64{0, 3}, 1, 2},
		{full, "6x6q3=0", []int64{0}, 1, 1}, {full, "1x1q3=0", []int64{0}, 1, 36}, {full, "6x5q3=0", []int64{0}, 5, 6}, {full, "5x5q3=0", []int64{7}, 25, 36}, {full, "4x3q3=0 3x4q3=0", []int64{0, 21}, 0, 0}, {full, "4x3q3=0 3x3q3=0", []int64{0, 21}, 7, 12}, {"ccccca ccccca ccccca ccccca ccccca aaaaax", "5x5q1=0", []int64{0}, 5, 7},
	} {
		rows, list := strings.Fields(x.rows), cuts(x.list)
		want := []any{fraction(x.num, x.den), int64(impl.OK)}
		if x.den == 0 {
			want[1] = int64(impl.ErrClash)
		}
		share, code := impl.UsedShare(rows, list, x.plan)
		same(t, fmt.Sprintf("share of %v for %v on %q", x.plan, list, rows), []any{share, code}, want)
	}
}

// TestHidesOfFlaws has hides without a good field: a plan that cuts a piece is faulty, and the others use no share.
func TestHidesOfFlaws(t *testing.T) {
	for size := range 36 {
		rows := slices.Repeat([]string{strings.Repeat("x", 1+size%6)}, 1+size/6)
		for _, list := range goodCutLists() {
			none := repeated(-1, len(list))
			checkPlan(t, rows, list, none, rows, -1)
			plan, worth, code := impl.BestPlan(rows, list)
			same(t, "best plan", []any{plan, worth, code}, []any{none, int64(0), int64(impl.OK)})
			for i := range list {
				plan := slices.Clone(none)
				plan[i] = int64(size) % int64(len(rows)*len(rows[0]))
				checkPlan(t, rows, list, plan, nil, int64(i))
			}
		}
	}
}

// randomPlan returns a plan of fields and of -1, many of them at places where the pieces fit.
func randomPlan(n *numbers, rows []string, list []impl.Cut) []int64 {
	var plan []int64
	for _, c := range list {
		at := n.from(-1, int64(len(rows)*len(rows[0]))-1)
		if places, _ := impl.PlacesOf(rows, c); len(places) > 0 && n.from(0, 4) > 0 {
			at = places[n.from(0, int64(len(places))-1)]
		}
		plan = append(plan, at)
	}
	return plan
}

func TestManyPlans(t *testing.T) {
	var n numbers
	found := map[int64]int{}
	for i, rows := range manyHides(&n, 150) {
		columns, down := int64(len(rows[0])), int64(len(rows))
		size := []int64{1, 2, 3, 6}[i/36%4]
		list := cutsOf(&n, int64(i)%5, min(size, columns), min(size, down), 1000)
		if i%3 == 0 {
			for k := range list {
				list[k].Quality = 1
			}
		}
		plan := randomPlan(&n, rows, list)
		lines, fault := painted(rows, list, plan)
		if fault < 0 && !slices.ContainsFunc(plan, func(at int64) bool { return at >= 0 }) {
			fault = -2
		}
		found[fault]++
		checkPlan(t, rows, list, plan, lines, max(fault, -1))
	}
	for fault := int64(-2); fault < 4; fault++ {
		if found[fault] < 100 {
			t.Errorf("only %d plans have the fault %d", found[fault], fault)
		}
	}
}

// TestAllPlansOfTwoPieces has all plans of pieces on small hides.
func TestAllPlansOfTwoPieces(t *testing.T) {
	var n numbers
	for _, rows := range manyHides(&n, 3) {
		size := int64(len(rows) * len(rows[0]))
		if size > 9 {
			continue
		}
		list := cutsOf(&n, 2, 3, 3, 9)
		for one := int64(-1); one < size; one++ {
			for other := int64(-1); other < size; other++ {
				plan := []int64{one, other}
				lines, fault := painted(rows, list, plan)
				checkPlan(t, rows, list, plan, lines, fault)
			}
		}
	}
}

// checkPlanCodes calls all functions of plans with arguments for which they return a code.
func checkPlanCodes(t *testing.T, rows []string, list []impl.Cut, plan []int64, code int64) {
	t.Helper()
	fault, one := impl.PlanFault(rows, list, plan)
	worth, two := impl.PlanWorth(rows, list, plan)
	share, three := impl.UsedShare(rows, list, plan)
	lines, four := impl.PlanLines(rows, list, plan)
	same(t, fmt.Sprintf("results of %v for %v on %.200q", plan, list, rows), []any{fault, one, worth, two, share, three, lines, four}, []any{int64(0), code, int64(0), code, impl.Fraction{}, code, []string(nil), code})
}

// badPlans returns plans with one thing each that is not as a plan has it for so many pieces on a hide with so many fields; some are faulty, too.
func badPlans(count int, size int64) [][]int64 {
	all := [][]int64{repeated(-1, count+1), repeated(0, count+1), repeated(-1, count+2), repeated(-2, count+1), repeated(-1, 1000), repeated(size, count+1)}
	for fewer := range count {
		all = append(all, repeated(-1, fewer), repeated(0, fewer), repeated(size, fewer))
	}
	if count > 0 {
		all = append(all, nil, []int64{})
	}
	for i := range count {
		for _, at := range []int64{-2, size, -3, size + 1, 36, 37, -size, 64, 2 * size, 1 << 32, 1<<32 + 1, -1 << 32, math.MinInt64, math.MinInt64 + 1, math.MaxInt64 - 1, math.MaxInt64} {
			// On one field, -size is -1, and no field.
			if at == -1 {
				continue
			}
			for _, others := range []int64{-1, 0, size - 1} {
				plan := repeated(others, count)
				plan[i] = at
				all = append(all, plan)
			}
			all = append(all, repeated(at, count))
		}
	}
	return all
}

// TestErrorsOfPlans has each argument alone and together with others that are wrong, too: a hide and a list that are not valid are found before a plan that is none, and this before one that is faulty.
func TestErrorsOfPlans(t *testing.T) {
	goodLists, badLists, hides := goodCutLists(), badCutLists(), goodHides()
	for i, rows := range badHides() {
		list := goodLists[i%len(goodLists)]
		checkPlanCodes(t, rows, list, repeated(-1, len(list)), impl.ErrInvalid)
		checkPlanCodes(t, rows, list, repeated(0, len(list)), impl.ErrInvalid)
		checkPlanCodes(t, rows, list, repeated(-2, len(list)+1), impl.ErrInvalid)
		bad := badLists[i%len(badLists)]
		checkPlanCodes(t, rows, bad, repeated(-1, len(bad)), impl.ErrInvalid)
		checkPlanCodes(t, rows, nil, nil, impl.ErrInvalid)
		plan, worth, code := impl.BestPlan(rows, list)
		same(t, "best plan", []any{plan, worth, code}, []any{[]int64(nil), int64(0), int64(impl.ErrInvalid)})
	}
	for i, list := range badLists {
		rows := hides[i%len(hides)]
		for _, hide := range [][]string{rows, strings.Fields(full), {"x"}} {
			checkPlanCodes(t, hide, list, repeated(-1, len(list)), impl.ErrInvalid)
			checkPlanCodes(t, hide, list, repeated(0, len(list)), impl.ErrInvalid)
			checkPlanCodes(t, hide, list, repeated(36, len(list)+1), impl.ErrInvalid)
			plan, worth, code := impl.BestPlan(hide, list)
			same(t, fmt.Sprint("best plan of ", list), []any{plan, worth, code}, []any{[]int64(nil), int64(0), int64(impl.ErrInvalid)})
		}
	}
	for i, rows := range hides {
		for k := range 4 {
			list := goodLists[(4*i+k)%len(goodLists)]
			for _, plan := range badPlans(len(list), int64(len(rows)*len(rows[0]))) {
				checkPlanCodes(t, rows, list, plan, impl.ErrRange)
			}
		}
	}
}
