package tests

import (
	"fmt"
	"slices"
	"strings"
	"testing"

	"loop.example/g01043/impl"
)

func checkBest(t *testing.T, rows []string, list []impl.Cut, plan []int64, worth int64) {
	t.Helper()
	got, most, code := impl.BestPlan(rows, list)
	same(t, fmt.Sprintf("best plan for %v on %q", list, rows), []any{got, most, code}, []any{plan, worth, int64(impl.OK)})
}

func TestBestPlan(t *testing.T) {
	for _, x := range []struct {
		rows, list string
		plan       []int64
		worth      int64
	}{
		{"aab", "2x1q3=5 1x1q2=4", []int64{0, 2}, 9}, {"aab", "1x1q2=4 2x1q3=5", []int64{2, 0}, 9}, {"baa", "2x1q3=5 1x1q2=4", []int64{1, 0}, 9}, {"aab", "", nil, 0}, {"x", "", nil, 0}, {"a", "1x1q3=1000", []int64{0}, 1000}, {"b", "1x1q3=1000", []int64{-1}, 0},
		// Pieces worth nothing are not cut, as -1 is the least number.
		{"a", "1x1q3=0", []int64{-1}, 0}, {"aab", "1x1q3=0 1x1q3=0 1x1q3=0 1x1q3=0", []int64{-1, -1, -1, -1}, 0}, {"aa", "1x1q3=0 1x1q3=5", []int64{-1, 0}, 5}, {"aa", "1x1q3=5 1x1q3=0", []int64{0, -1}, 5}, {"aab", "1x1q1=0 1x1q1=1 1x1q1=0 1x1q1=1", []int64{-1, 0, -1, 1}, 2}, {full, "6x6q3=0 6x6q3=1", []int64{-1, 0}, 1},
		// One of several pieces, and pieces that could be exchanged.
		{"a", "1x1q3=5 1x1q3=5", []int64{-1, 0}, 5}, {"a", "1x1q3=5 1x1q3=6", []int64{-1, 0}, 6}, {"a", "1x1q3=6 1x1q3=5", []int64{0, -1}, 6}, {"a", "1x1q3=5 1x1q3=5 1x1q3=5 1x1q3=5", []int64{-1, -1, -1, 0}, 5}, {"a", "1x1q3=4 1x1q3=5 1x1q3=5 1x1q3=4", []int64{-1, -1, 0, -1}, 5}, {"aa", "1x1q3=5 1x1q3=5", []int64{0, 1}, 10}, {"aa", "1x1q3=5 1x1q3=5 1x1q3=5", []int64{-1, 0, 1}, 10}, {"aa", "1x1q3=5 1x1q3=4 1x1q3=5", []int64{0, -1, 1}, 10}, {"aaaa", "1x1q3=5 1x1q3=5 1x1q3=5 1x1q3=5", []int64{0, 1, 2, 3}, 20}, {"aaaa", "2x1q3=5 2x1q3=5 2x1q3=5", []int64{-1, 0, 2}, 10},
		// Several plans that are worth as much.
		{"aa aa", "2x2q3=10 1x1q3=3 1x1q3=3 1x1q3=4", []int64{-1, 0, 1, 2}, 10}, {"aa aa", "2x2q3=11 1x1q3=3 1x1q3=3 1x1q3=4", []int64{0, -1, -1, -1}, 11}, {"aa aa", "1x1q3=3 2x2q3=10 1x1q3=3 1x1q3=4", []int64{-1, 0, -1, -1}, 10}, {"aaa", "2x1q3=5 2x1q3=5", []int64{-1, 0}, 5}, {"aaa", "2x1q3=5 2x1q3=5 1x1q3=1", []int64{-1, 0, 2}, 6}, {"aaa", "2x1q3=5 2x1q3=5 1x1q3=0", []int64{-1, 0, -1}, 5}, {"abc", "1x1q1=2 1x1q1=2", []int64{0, 1}, 4},
		// What is best for the first piece is not best for all.
		{"baa", "1x1q3=4 2x1q2=5", []int64{2, 0}, 9}, {"aab", "1x1q2=4 1x1q3=4 1x1q3=4", []int64{2, 0, 1}, 12}, {"aba", "1x1q2=4 1x1q3=4 1x1q3=4", []int64{1, 0, 2}, 12}, {"cab", "1x1q1=1 1x1q2=1 1x1q3=1", []int64{0, 2, 1}, 3}, {"aaaa", "1x1q3=1 3x1q3=9", []int64{0, 1}, 10}, {"aaaaa", "1x1q3=1 2x1q3=9 2x1q3=9", []int64{0, 1, 3}, 19}, {"aaaax aaaax", "2x2q3=5 3x1q3=4 1x1q3=3", []int64{0, -1, 2}, 8}, {"aaaax aaaax", "2x2q3=5 3x1q3=4 1x1q3=3 1x2q3=5", []int64{0, -1, 2, 3}, 13}, {"aaaax aaaax", "2x2q3=5 3x1q3=4 4x1q3=4", []int64{-1, 0, 5}, 8}, {"aaxaa", "3x1q3=1000 1x1q3=1 1x1q3=1 1x1q3=1", []int64{-1, 0, 1, 3}, 3}, {"aaa", "3x1q3=6 1x1q3=2 1x1q3=2 1x1q3=3", []int64{-1, 0, 1, 2}, 7},
		// Pieces as large as the hide, and one larger.
		{full, "6x6q3=1000", []int64{0}, 1000}, {full, "6x6q3=1000 1x1q3=999", []int64{0, -1}, 1000}, {full, "6x6q3=1000 1x1q3=1000", []int64{-1, 0}, 1000}, {full, "1x1q3=1000 6x6q3=1000", []int64{-1, 0}, 1000}, {full, "6x6q3=1000 6x6q3=1000 6x6q3=1000 6x6q3=1000", []int64{-1, -1, -1, 0}, 1000}, {full, "6x6q3=7 6x6q3=9 6x6q3=9 6x6q3=8", []int64{-1, -1, 0, -1}, 9}, {full, "6x5q3=1 6x1q3=1", []int64{0, 30}, 2}, {full, "6x1q3=1 6x5q3=1", []int64{0, 6}, 2}, {full, "5x6q3=1 1x6q3=1", []int64{0, 5}, 2}, {full, "6x5q3=1 1x6q3=1", []int64{-1, 0}, 1}, {full, "3x3q3=1000 3x3q3=1000 3x3q3=1000 3x3q3=1000", []int64{0, 3, 18, 21}, 4000}, {full, "1x1q3=1000 1x1q3=1000 1x1q3=1000 1x1q3=1000", []int64{0, 1, 2, 3}, 4000}, {full, "3x3q1=1 3x4q1=1 3x3q1=1 3x2q1=1", []int64{0, 3, 18, 27}, 4}, {full, "4x2q1=1 2x4q1=1 4x2q1=1 2x4q1=1", []int64{0, 4, 26, 12}, 4}, {full, "4x4q1=1 4x4q1=2 3x3q1=1 2x2q1=1", []int64{-1, 0, -1, 4}, 3},
		{"aaaaaa aaaaaa aaaaaa aaaaaa aaaaaa aaaaab", "6x6q3=1000 6x6q2=1", []int64{-1, 0}, 1}, {"aaaaaa", "6x1q3=9 6x2q3=1000", []int64{0, -1}, 9}, {"a a a a a a", "2x1q3=1000 1x6q3=9 2x6q3=1000", []int64{-1, 0, -1}, 9}, {"aaaaa aaaaa aaaaa aaaaa aaaaa", "6x1q3=1000 1x6q3=1000 5x5q3=1 6x6q3=1000", []int64{-1, -1, 0, -1}, 1}, {"aa aa", "3x1q1=5 1x3q1=5 2x2q1=1 3x3q1=5", []int64{-1, -1, 0, -1}, 1},
		{"xxxxxx xxxxxx xxxxxx xxxxxx xxxxxx xxxxxc", "1x1q1=1 1x1q1=2 1x1q2=1000", []int64{-1, 35, -1}, 2},
	} {
		checkBest(t, strings.Fields(x.rows), cuts(x.list), x.plan, x.worth)
	}
}

// somePieces returns pieces for a hide: most of them small, so that many of them have several places, some equal, and some worth nothing.
func somePieces(n *numbers, rows []string, count, i int64) []impl.Cut {
	columns, down := int64(len(rows[0])), int64(len(rows))
	list := cutsOf(n, count, min(columns, 1+i%4), min(down, 1+i/4%4), []int64{1, 5, 1000}[i%3])
	for k := range list {
		switch n.from(0, 7) {
		case 0:
			list[k] = list[0]
		case 1:
			list[k].Worth = 0
		case 2:
			list[k].Width, list[k].Height = n.from(1, 6), n.from(1, 6)
		case 3:
			list[k].Width, list[k].Height = columns, down
		}
		if i%2 == 0 {
			list[k].Quality = 1
		}
	}
	return list
}

// planCount returns how many plans there are at most that cut pieces where they fit.
func planCount(rows []string, list []impl.Cut) int64 {
	all := int64(1)
	for _, c := range list {
		places, _ := impl.PlacesOf(rows, c)
		all *= 1 + int64(len(places))
	}
	return all
}

// TestBestPlansOfManyHides is for promises 10 and 11: it looks at all plans, which must not be faulty, and compares the best plan on the other side, too.
func TestBestPlansOfManyHides(t *testing.T) {
	var n numbers
	var ties, whole, none int
	for i, rows := range manyHides(&n, 80) {
		list := somePieces(&n, rows, int64(i)%5, int64(i)/5)
		if planCount(rows, list) > 5000 {
			continue
		}
		plan, worth := bestOf(rows, list)
		checkBest(t, rows, list, plan, worth)
		lines, fault := painted(rows, list, plan)
		same(t, "fault", fault, int64(-1))
		checkPlan(t, rows, list, plan, lines, -1)
		checkOtherSide(t, rows, list, plan, worth)
		equal := 0
		eachPlan(rows, list, func(other []int64) {
			if worthOf(list, other) == worth {
				equal++
			}
		})
		switch {
		case equal > 1 && worth > 0:
			ties++
		case worth == 0:
			none++
		}
		if len(list) > 1 && !slices.Contains(plan, -1) {
			whole++
		}
	}
	if ties < 200 || whole < 100 || none < 100 {
		t.Errorf("%d hides have several best plans, %d have one with all pieces, %d have one that is worth nothing", ties, whole, none)
	}
}

// checkOtherSide turns a hide over: the best plan there is worth as much, and so is this one, if each piece lies as far from the other end of the rows.
func checkOtherSide(t *testing.T, rows []string, list []impl.Cut, plan []int64, worth int64) {
	t.Helper()
	mirrored, code := impl.MirrorHide(rows)
	same(t, "code", code, int64(impl.OK))
	other, most, code := impl.BestPlan(mirrored, list)
	same(t, fmt.Sprintf("worth of the best plan for %v on %q", list, mirrored), []any{most, code}, []any{worth, int64(impl.OK)})
	own, code := impl.PlanWorth(mirrored, list, other)
	same(t, "worth of the plan", []any{own, code}, []any{worth, int64(impl.OK)})
	columns := int64(len(rows[0]))
	over := slices.Clone(plan)
	for i, at := range plan {
		if at >= 0 {
			over[i] = at/columns*columns + columns - at%columns - list[i].Width
		}
	}
	own, code = impl.PlanWorth(mirrored, list, over)
	same(t, fmt.Sprintf("worth of %v for %v on %q", over, list, mirrored), []any{own, code}, []any{worth, int64(impl.OK)})
}

// TestBestPlansOfLargeHides has hides of 25 to 36 fields, and pieces with many places.
func TestBestPlansOfLargeHides(t *testing.T) {
	var n numbers
	for i := range int64(60) {
		rows := hideOf(&n, 5+i%2, 5+i/2%2, manyLetters[i%9])
		list := cutsOf(&n, 3+i%2, 2+i%3, 2+i/3%3, []int64{2, 1000}[i%2])
		if planCount(rows, list) > 50000 {
			list = list[:2]
		}
		plan, worth := bestOf(rows, list)
		checkBest(t, rows, list, plan, worth)
		checkOtherSide(t, rows, list, plan, worth)
	}
}

// TestBestPlansOfSmallPieces has pieces of one field on the largest hides: each field is worth as much as any other one that is good enough, so that the first ones are taken, the best fields last.
func TestBestPlansOfSmallPieces(t *testing.T) {
	rows := strings.Fields(full)
	for count := range int64(5) {
		var plan []int64
		for i := range count {
			plan = append(plan, i)
		}
		checkBest(t, rows, slices.Repeat(cuts("1x1q3=1"), int(count)), plan, count)
		checkBest(t, rows, slices.Repeat(cuts("1x1q3=0"), int(count)), repeated(-1, int(count)), 0)
	}
	// Of four pieces, three fields have room for three.
	rows = strings.Fields("xxxxxx xxxxxx xxaaxx xxaxxx xxxxxx xxxxxx")
	checkBest(t, rows, slices.Repeat(cuts("1x1q3=1"), 4), []int64{-1, 14, 15, 20}, 3)
	checkBest(t, rows, cuts("1x1q1=4 1x1q1=1 1x1q1=3 1x1q1=2"), []int64{14, -1, 15, 20}, 9)
	checkBest(t, strings.Fields("abbbbb bbbbbb bbbbbb bbbbbb bbbbbb bbbbba"), cuts("1x1q2=1 1x1q3=1 1x1q2=1 1x1q3=1"), []int64{1, 0, 2, 35}, 4)
	checkBest(t, strings.Fields("abbbbb bbbbbb bbbbbb bbbbbb bbbbbb bbbbbb"), cuts("1x1q2=1 1x1q3=1 1x1q2=1 1x1q3=1"), []int64{1, -1, 2, 0}, 3)
}
