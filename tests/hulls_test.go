package tests

import (
	"fmt"
	"math"
	"slices"
	"testing"

	"loop.example/g01043/impl"
)

// badQuarters are no numbers of quarters.
var badQuarters = []int64{-1, 4, 5, -2, -4, 8, 1 << 32, -1 << 32, math.MinInt64, math.MinInt64 + 1, math.MaxInt64 - 1, math.MaxInt64}

func TestHullOf(t *testing.T) {
	for _, x := range []struct{ text, hull string }{
		{"0,0 4,0 0,3", "0,0 4,0 0,3"}, {"0,0 1,0 0,1", "0,0 1,0 0,1"}, {"0,0 4,0 4,4 0,4", "0,0 4,0 4,4 0,4"}, {"4,0 8,3 4,6 0,3", "0,3 4,0 8,3 4,6"}, {"9,9 8,1 3,5", "3,5 8,1 9,9"}, {"1,9 0,5 6,0", "0,5 6,0 1,9"},
		{"5,5 15,5 10,7 15,15 5,15", "5,5 15,5 15,15 5,15"}, {"0,0 10,0 10,10 2,10 2,4 6,4 6,6 4,6 4,8 8,8 8,2 0,2", "0,0 10,0 10,10 2,10 0,2"}, {"0,0 10000,0 5000,1 10000,10000 0,10000 1,5000", "0,0 10000,0 10000,10000 0,10000"}, {"0,0 10000,9999 1,1", "0,0 10000,9999 1,1"},
		// Corners on the straight lines of the hull, on each of its sides.
		{"0,0 8,0 8,8 6,8 6,4 2,4 2,8 0,8", "0,0 8,0 8,8 0,8"}, {"0,0 2,0 3,1 4,0 8,0 8,8 0,8", "0,0 8,0 8,8 0,8"}, {"0,0 8,0 8,2 7,3 8,4 8,8 0,8", "0,0 8,0 8,8 0,8"}, {"0,0 8,0 8,8 0,8 0,6 1,5 0,4", "0,0 8,0 8,8 0,8"}, {"0,0 8,0 8,8 5,8 4,7 3,8 0,8", "0,0 8,0 8,8 0,8"}, {"0,0 6,3 7,7 9,6 10,5 12,6 0,12", "0,0 12,6 0,12"}, {"0,4 2,3 3,4 4,2 8,0 8,8", "0,4 8,0 8,8"}, {"0,0 9,0 9,9 8,9 7,4 4,9 3,9 3,5 0,9", "0,0 9,0 9,9 0,9"}, {"0,0 10,0 4,6 4,5 2,8 3,4 0,10", "0,0 10,0 0,10"},
		// Several corners with the least X or with the greatest one, only the ends of which are left.
		{"3,9 3,5 4,4 3,3 3,1 9,2", "3,1 9,2 3,9"}, {"0,8 0,6 1,5 0,4 0,2 1,1 0,0 9,4", "0,0 9,4 0,8"}, {"9,8 9,6 8,5 9,4 9,2 8,1 9,0 0,4", "0,4 9,0 9,8"}, {"2,7 5,7 5,1 2,1", "2,1 5,1 5,7 2,7"}, {"1,5 9,0 9,9 1,7", "1,5 9,0 9,9 1,7"},
	} {
		for _, list := range ways(spots(x.text)) {
			hull, code := impl.HullOf(list)
			same(t, fmt.Sprint("hull of ", list), []any{hull, code}, []any{spots(x.hull), int64(impl.OK)})
			hollow, code := impl.IsHollow(list)
			same(t, fmt.Sprint("is hollow: ", list), []any{hollow, code}, []any{len(hull) < len(list), int64(impl.OK)})
		}
	}
	for count := int64(3); count <= 24; count++ {
		for _, list := range ways(bow(count)) {
			hull, code := impl.HullOf(list)
			same(t, fmt.Sprint("hull of ", list), []any{hull, code}, []any{bow(count), int64(impl.OK)})
			hollow, code := impl.IsHollow(list)
			same(t, fmt.Sprint("is hollow: ", list), []any{hollow, code}, []any{false, int64(impl.OK)})
		}
	}
}

// turning is positive if one turns to the left on the way from a over b to c, and negative if one turns to the right.
func turning(a, b, c impl.Spot) int64 { return (b.X-a.X)*(c.Y-a.Y) - (b.Y-a.Y)*(c.X-a.X) }

// wrapped goes around all spots from the one with the least X and Y on, always to that one which has no other to its right, the farthest one of several.
func wrapped(list []impl.Spot) []impl.Spot {
	first := list[0]
	for _, p := range list {
		if p.X < first.X || p.X == first.X && p.Y < first.Y {
			first = p
		}
	}
	hull := []impl.Spot{first}
	for {
		at := hull[len(hull)-1]
		next := at
		for _, p := range list {
			turn := turning(at, next, p)
			if turn < 0 || turn == 0 && max(p.X-at.X, at.X-p.X)+max(p.Y-at.Y, at.Y-p.Y) > max(next.X-at.X, at.X-next.X)+max(next.Y-at.Y, at.Y-next.Y) {
				next = p
			}
		}
		if next == first {
			return hull
		}
		hull = append(hull, next)
	}
}

// checkHull checks for promise 7 that no corner is outside of the hull, and that the hull is an outline to the left without hollows.
func checkHull(t *testing.T, list []impl.Spot) {
	t.Helper()
	name := fmt.Sprint("hull of ", list)
	hull, code := impl.HullOf(list)
	same(t, name, []any{hull, code}, []any{wrapped(list), int64(impl.OK)})
	for _, p := range list {
		place, code := impl.PlaceOfSpot(hull, p)
		if place == "outside" || code != impl.OK {
			t.Errorf("%s is %v: %v is %q", name, hull, p, place)
		}
	}
	for _, p := range hull {
		same(t, name+" has a corner", slices.Contains(list, p), true)
	}
	left, one := impl.IsLeftHanded(hull)
	hollow, two := impl.IsHollow(hull)
	again, three := impl.HullOf(hull)
	same(t, name+" as an outline", []any{left, one, hollow, two, again, three}, []any{true, int64(impl.OK), false, int64(impl.OK), hull, int64(impl.OK)})
}

// isHollow reports whether one turns both to the left and to the right.
func isHollow(list []impl.Spot) bool {
	var left, right bool
	for i, p := range list {
		turn := turning(p, list[(i+1)%len(list)], list[(i+2)%len(list)])
		left, right = left || turn > 0, right || turn < 0
	}
	return left && right
}

// TestNoCornerIsOutsideOfTheHull is for promise 7.
func TestNoCornerIsOutsideOfTheHull(t *testing.T) {
	var n numbers
	var hollows, others int
	check := func(list []impl.Spot) {
		checkHull(t, list)
		want := isHollow(list)
		hollow, code := impl.IsHollow(list)
		same(t, fmt.Sprint("is hollow: ", list), []any{hollow, code}, []any{want, int64(impl.OK)})
		if want {
			hollows++
		} else {
			others++
		}
	}
	for _, list := range outlinesOf(&n, 20) {
		check(list)
	}
	for number := range int64(65536) {
		if list := onGrid(number, 4, 4); number%9 == 0 && isOutline(list) {
			check(list)
		}
	}
	if hollows < 300 || others < 300 {
		t.Errorf("%d outlines are hollow, %d are not", hollows, others)
	}
}

func TestMirrorOutline(t *testing.T) {
	for _, x := range []struct{ text, mirrored string }{
		{"0,0 4,0 0,3", "4,3 0,0 4,0"}, {"0,3 4,0 0,0", "4,0 0,0 4,3"}, {"5,5 15,5 10,7 15,15 5,15", "10,10 0,10 5,2 0,0 10,0"}, {"7,3 9,4 8,6", "1,3 0,1 2,0"}, {"0,0 10000,0 0,10000", "10000,10000 0,0 10000,0"}, {"10000,10000 9999,10000 10000,9999", "0,0 1,1 0,1"}, {"0,9999 1,9999 1,10000 0,10000", "1,1 0,1 0,0 1,0"}, {"9999,0 10000,0 9999,1", "1,1 0,0 1,0"},
	} {
		mirrored, code := impl.MirrorOutline(spots(x.text))
		same(t, "mirrored "+x.text, []any{mirrored, code}, []any{spots(x.mirrored), int64(impl.OK)})
	}
}

func TestTurnOutline(t *testing.T) {
	for _, x := range []struct{ text, none, one, two, three string }{
		{"0,0 4,0 0,3", "0,0 4,0 0,3", "3,0 3,4 0,0", "4,3 0,3 4,0", "0,4 0,0 3,4"}, {"0,3 4,0 0,0", "0,3 4,0 0,0", "0,0 3,4 3,0", "4,0 0,3 4,3", "3,4 0,0 0,4"},
		{"5,5 15,5 10,7 15,15 5,15", "0,0 10,0 5,2 10,10 0,10", "10,0 10,10 8,5 0,10 0,0", "10,10 0,10 5,8 0,0 10,0", "0,10 0,0 2,5 10,0 10,10"}, {"7,3 9,4 8,6", "0,0 2,1 1,3", "3,0 2,2 0,1", "2,3 0,2 1,0", "0,2 1,0 3,1"},
		{"0,0 10000,0 10000,5", "0,0 10000,0 10000,5", "5,0 5,10000 0,10000", "10000,5 0,5 0,0", "0,10000 0,0 5,0"}, {"10000,10000 9999,10000 10000,9999", "1,1 0,1 1,0", "0,1 0,0 1,1", "0,0 1,0 0,1", "1,0 1,1 0,0"}, {"0,9999 1,9999 0,10000", "0,0 1,0 0,1", "1,0 1,1 0,0", "1,1 0,1 1,0", "0,1 0,0 1,1"},
	} {
		for quarters, want := range []string{x.none, x.one, x.two, x.three} {
			turned, code := impl.TurnOutline(spots(x.text), int64(quarters))
			same(t, fmt.Sprint(quarters, " quarters of ", x.text), []any{turned, code}, []any{spots(want), int64(impl.OK)})
		}
	}
}

func TestErrorsOfQuarters(t *testing.T) {
	for _, quarters := range badQuarters {
		for _, list := range goodOutlines() {
			turned, code := impl.TurnOutline(list, quarters)
			same(t, fmt.Sprint(quarters, " quarters of ", list), []any{turned, code}, []any{[]impl.Spot(nil), int64(impl.ErrRange)})
		}
	}
}

// movedTo returns what becomes of an outline whose corners are looked at from another side of its box.
func movedTo(list []impl.Spot, place func(p, low, high impl.Spot) impl.Spot) []impl.Spot {
	low, high := boxOf(list)
	moved := make([]impl.Spot, 0, len(list))
	for _, p := range list {
		moved = append(moved, place(p, low, high))
	}
	return moved
}

// quartersOf returns an outline with 0 to 3 quarters, moved to both axes.
func quartersOf(list []impl.Spot) [][]impl.Spot {
	return [][]impl.Spot{
		movedTo(list, func(p, low, high impl.Spot) impl.Spot { return spot(p.X-low.X, p.Y-low.Y) }),
		movedTo(list, func(p, low, high impl.Spot) impl.Spot { return spot(high.Y-p.Y, p.X-low.X) }),
		movedTo(list, func(p, low, high impl.Spot) impl.Spot { return spot(high.X-p.X, high.Y-p.Y) }),
		movedTo(list, func(p, low, high impl.Spot) impl.Spot { return spot(p.Y-low.Y, high.X-p.X) }),
	}
}

// checkLike checks for promise 7 that an outline has the area of another one, and what else stays if it is only mirrored or turned.
func checkLike(t *testing.T, name string, list, like []impl.Spot) {
	t.Helper()
	same(t, "is valid: "+name, impl.ValidOutline(like), true)
	var all [2][]any
	for i, outline := range [][]impl.Spot{list, like} {
		twice, one := impl.TwiceArea(outline)
		left, two := impl.IsLeftHanded(outline)
		hollow, three := impl.IsHollow(outline)
		inside, onSides, four := impl.SpotsInside(outline)
		hull, five := impl.HullOf(outline)
		all[i] = []any{twice, one, left, two, hollow, three, inside, onSides, four, len(hull), five}
	}
	same(t, name, all[1], all[0])
	low, _, code := impl.BoxOf(like)
	same(t, "box of "+name, []any{low, code}, []any{impl.Spot{}, int64(impl.OK)})
}

// TestTurnedAndMirroredOutlinesHaveTheArea is for promise 7.
func TestTurnedAndMirroredOutlinesHaveTheArea(t *testing.T) {
	var n numbers
	for _, list := range append(outlinesOf(&n, 20), goodOutlines()...) {
		name := fmt.Sprint(list)
		turns := quartersOf(list)
		for quarters, want := range turns {
			turned, code := impl.TurnOutline(list, int64(quarters))
			same(t, fmt.Sprint(quarters, " quarters of ", name), []any{turned, code}, []any{want, int64(impl.OK)})
			checkLike(t, fmt.Sprint(quarters, " quarters of ", name), list, turned)
			// The quarters that are left of a whole turn lead back.
			back, code := impl.TurnOutline(turned, int64((4-quarters)%4))
			same(t, "turned back "+name, []any{back, code}, []any{turns[0], int64(impl.OK)})
		}
		want := movedTo(list, func(p, low, high impl.Spot) impl.Spot { return spot(high.X-p.X, p.Y-low.Y) })
		slices.Reverse(want)
		mirrored, code := impl.MirrorOutline(list)
		same(t, "mirrored "+name, []any{mirrored, code}, []any{want, int64(impl.OK)})
		checkLike(t, "mirrored "+name, list, mirrored)
		back, code := impl.MirrorOutline(mirrored)
		same(t, "mirrored back "+name, []any{back, code}, []any{turns[0], int64(impl.OK)})
	}
}
