package tests

import (
	"fmt"
	"testing"

	"loop.example/g01043/impl"
)

func TestPlaceOfSpot(t *testing.T) {
	const hollow = "5,5 15,5 10,7 15,15 5,15"
	const bowl = "0,0 8,0 8,8 6,8 6,4 2,4 2,8 0,8"
	const spiral = "0,0 10,0 10,10 2,10 2,4 6,4 6,6 4,6 4,8 8,8 8,2 0,2"
	const square = "0,0 10000,0 10000,10000 0,10000"
	const saw = "0,4 2,0 4,4 6,0 8,4 10,0 12,4 6,9"
	const sliver = "0,0 10000,9999 10000,10000"
	for _, x := range []struct{ text, place, list string }{
		{"0,0 4,0 0,3", "inside", "1,1 2,1 1,2"}, {"0,0 4,0 0,3", "edge", "0,0 4,0 0,3 2,0 0,2 1,0 0,1 3,0"}, {"0,0 4,0 0,3", "outside", "3,2 4,3 3,1 2,2 5,0 0,4 0,5 10,0 1,3 4,1 10000,0 0,10000 10000,10000 8,0"},
		{"4,0 8,3 4,6 0,3", "inside", "4,3 1,3 7,3 4,1 4,5"}, {"4,0 8,3 4,6 0,3", "edge", "4,0 8,3 4,6 0,3"}, {"4,0 8,3 4,6 0,3", "outside", "0,0 8,0 8,6 0,6 9,3 10,3 4,7 4,9 3,0 5,0 3,6 5,6 0,2 0,4 8,2 8,4"},
		{hollow, "inside", "10,6 9,7 6,6 6,14 13,12 10,8 11,6 10,10"}, {hollow, "edge", "5,5 15,5 10,7 15,15 5,15 10,5 5,10 10,15 14,15"}, {hollow, "outside", "11,7 14,6 14,10 15,10 15,6 15,14 12,10 4,5 16,5 5,4 5,16 4,7 15,7 20,7 0,0"},
		{bowl, "inside", "1,1 4,1 7,1 1,7 7,7 1,4 7,4 4,3"}, {bowl, "edge", "0,0 2,4 6,4 4,4 3,4 2,6 6,6 2,8 6,8 1,8 7,8 0,8 8,8 4,0 0,4 8,4"}, {bowl, "outside", "3,5 4,5 4,8 4,7 3,8 5,8 4,9 9,4 9,8 9,0 10,8 0,9 3,6 5,6"},
		{spiral, "inside", "1,1 9,1 9,9 3,9 3,5 5,5 4,5 7,9 3,8 9,5"}, {spiral, "edge", "2,4 6,4 6,5 4,7 8,5 0,1 0,0 10,5 5,6 5,8 7,8 8,8"}, {spiral, "outside", "7,3 1,3 1,4 7,7 5,7 7,5 0,3 0,10 1,10 11,5 3,3 7,4 7,6 7,7 1,8 0,4 0,8"},
		{square, "inside", "1,1 9999,9999 5000,5000 1,9999 9999,1"}, {square, "edge", "0,0 10000,10000 0,1 9999,0 10000,5000 5000,10000"},
		// As high as many corners.
		{saw, "inside", "2,4 4,5 6,4 8,5 10,4 1,4 3,4 5,4 7,4 9,4 11,4 2,1 6,1 10,1 6,8"}, {saw, "edge", "0,4 4,4 8,4 12,4 2,0 6,0 10,0 1,2 3,2 5,2 7,2 9,2 11,2 6,9"}, {saw, "outside", "0,0 1,0 3,0 4,0 5,0 7,0 8,0 9,0 11,0 12,0 13,4 14,4 4,3 8,3 4,1 0,9 5,9 7,9 12,9 0,5 12,5"},
		// As near to a side as a spot can be.
		{sliver, "edge", "0,0 10000,9999 10000,10000 1,1 2,2 5000,5000 9999,9999"}, {sliver, "outside", "1,0 0,1 2,1 9999,9998 9998,9999 9999,10000 10000,9998 5000,4999 4999,5000 10000,0 0,10000"},
		{"0,0 10000,9999 0,10000", "inside", "1,1 9999,9999 5000,5000 1,9998 1,5"}, {"0,0 10000,9999 0,10000", "edge", "0,5 0,9999"}, {"0,0 10000,9999 0,10000", "outside", "2,1 9999,9998 5000,4999 9999,10000 1,10000 1,0"},
		// On the straight line through a side, beyond it.
		{"2,2 6,4 2,6", "inside", "3,3 3,4 3,5 4,4 5,4"}, {"2,2 6,4 2,6", "edge", "2,2 4,3 6,4 4,5 2,6 2,3 2,4 2,5"}, {"2,2 6,4 2,6", "outside", "0,1 8,5 10,6 0,7 8,3 10,2 2,0 2,1 2,7 2,10 1,4 7,4 0,2 6,2 8,2 6,6 0,4 10000,4 2,10000"},
	} {
		for _, list := range ways(spots(x.text)) {
			for _, p := range spots(x.list) {
				place, code := impl.PlaceOfSpot(list, p)
				same(t, fmt.Sprint("place of ", p, " in ", list), []any{place, code}, []any{x.place, int64(impl.OK)})
			}
		}
	}
}

// placeIn counts the sides that meet a line from p, which is so flat that it has no other spot with whole numbers on leather.
func placeIn(list []impl.Spot, p impl.Spot) string {
	const flat = 100003
	inside := false
	for i, a := range list {
		b := list[(i+1)%len(list)]
		if meet(a, b, p, p) {
			return "edge"
		}
		one, other := (a.X-p.X)-(a.Y-p.Y)*flat, (b.X-p.X)-(b.Y-p.Y)*flat
		if one > 0 == (other > 0) {
			continue
		}
		ahead := (a.X-p.X)*(b.Y-a.Y)-(a.Y-p.Y)*(b.X-a.X) > 0
		if ahead == (flat*(b.Y-a.Y)-(b.X-a.X) > 0) {
			inside = !inside
		}
	}
	if inside {
		return "inside"
	}
	return "outside"
}

// boxOf returns the least X and Y, and the greatest ones.
func boxOf(list []impl.Spot) (impl.Spot, impl.Spot) {
	low, high := list[0], list[0]
	for _, p := range list {
		low, high = spot(min(low.X, p.X), min(low.Y, p.Y)), spot(max(high.X, p.X), max(high.Y, p.Y))
	}
	return low, high
}

// TestAllPlaces compares all spots in and around small outlines, and how many there are of each kind.
func TestAllPlaces(t *testing.T) {
	var n numbers
	for _, list := range outlinesOf(&n, 8) {
		low, high := boxOf(list)
		if high.X-low.X > 40 {
			continue
		}
		counts := map[string]int64{}
		for x := max(0, low.X-2); x <= high.X+2; x++ {
			for y := max(0, low.Y-2); y <= high.Y+2; y++ {
				want := placeIn(list, spot(x, y))
				counts[want]++
				place, code := impl.PlaceOfSpot(list, spot(x, y))
				same(t, fmt.Sprint("place of ", spot(x, y), " in ", list), []any{place, code}, []any{want, int64(impl.OK)})
			}
		}
		inside, onSides, code := impl.SpotsInside(list)
		same(t, fmt.Sprint("spots inside of ", list), []any{inside, onSides, code}, []any{counts["inside"], counts["edge"], int64(impl.OK)})
	}
}

// TestPlacesInLargeOutlines has spots near corners and near sides, as high as corners, and any others.
func TestPlacesInLargeOutlines(t *testing.T) {
	var n numbers
	counts := map[string]int{}
	for range 300 {
		list := outlineOf(&n, n.from(3, 24), 0, 10000)
		for i, a := range list {
			b := list[(i+1)%len(list)]
			k := n.from(1, 99)
			near := spot(a.X+(b.X-a.X)*k/100+n.from(-1, 1), a.Y+(b.Y-a.Y)*k/100+n.from(-1, 1))
			for _, p := range []impl.Spot{a, spot(a.X+n.from(-1, 1), a.Y+n.from(-1, 1)), near, spot(n.from(0, 10000), a.Y), spot(a.X, n.from(0, 10000)), spot(n.from(0, 10000), n.from(0, 10000))} {
				p = spot(min(max(p.X, 0), 10000), min(max(p.Y, 0), 10000))
				want := placeIn(list, p)
				counts[want]++
				place, code := impl.PlaceOfSpot(list, p)
				same(t, fmt.Sprint("place of ", p, " in ", list), []any{place, code}, []any{want, int64(impl.OK)})
			}
		}
	}
	if counts["inside"] < 1000 || counts["edge"] < 1000 || counts["outside"] < 1000 {
		t.Errorf("places are not of all kinds: %v", counts)
	}
}

func TestErrorsOfPlaces(t *testing.T) {
	for _, p := range otherSpots {
		for _, list := range goodOutlines() {
			place, code := impl.PlaceOfSpot(list, p)
			same(t, fmt.Sprint("place of ", p, " in ", list), []any{place, code}, []any{"", int64(impl.ErrRange)})
		}
	}
	for _, p := range spots("0,0 10000,0 0,10000 10000,10000") {
		place, code := impl.PlaceOfSpot(spots("4,4 8,4 4,8"), p)
		same(t, fmt.Sprint("place of ", p), []any{place, code}, []any{"outside", int64(impl.OK)})
	}
}

func TestBoxOf(t *testing.T) {
	for _, x := range []struct {
		text      string
		low, high impl.Spot
	}{
		{"0,0 4,0 0,3", spot(0, 0), spot(4, 3)}, {"5,5 15,5 10,7 15,15 5,15", spot(5, 5), spot(15, 15)}, {"7,3 9,4 8,6", spot(7, 3), spot(9, 6)}, {"0,2 2,0 4,2 2,4", spot(0, 0), spot(4, 4)}, {"10000,10000 9999,10000 10000,9999", spot(9999, 9999), spot(10000, 10000)}, {"0,0 10000,0 0,10000", spot(0, 0), spot(10000, 10000)}, {"3,9 5,1 4,20", spot(3, 1), spot(5, 20)}, {"9,3 1,5 20,4", spot(1, 3), spot(20, 5)},
	} {
		for _, list := range ways(spots(x.text)) {
			low, high, code := impl.BoxOf(list)
			same(t, fmt.Sprint("box of ", list), []any{low, high, code}, []any{x.low, x.high, int64(impl.OK)})
		}
	}
	var n numbers
	for _, list := range outlinesOf(&n, 20) {
		least, greatest := boxOf(list)
		low, high, code := impl.BoxOf(list)
		same(t, fmt.Sprint("box of ", list), []any{low, high, code}, []any{least, greatest, int64(impl.OK)})
	}
}

func TestSpotsInside(t *testing.T) {
	for _, x := range []struct {
		text            string
		inside, onSides int64
	}{
		{"0,0 4,0 0,3", 3, 8}, {"0,0 2,0 0,2", 0, 6}, {"0,0 3,0 0,3", 1, 9}, {"0,0 4,0 4,4 0,4", 9, 16}, {"0,2 2,0 4,2 2,4", 5, 8}, {"7,3 9,4 8,6", 2, 3}, {"5,5 15,5 10,7 15,15 5,15", 60, 32},
		// None is inside.
		{"0,0 1,0 0,1", 0, 3}, {"0,0 1,0 1,1 0,1", 0, 4}, {"0,0 10000,9999 1,1", 0, 3}, {"0,0 10000,9999 10000,10000", 0, 10002}, {"0,0 10000,0 10000,1 0,1", 0, 20002}, {"9999,0 10000,0 10000,10000 9999,10000", 0, 20002}, {"0,0 2,0 1,1 2,2 0,2", 0, 8}, {"0,0 8,0 8,8 7,8 7,1 1,1 1,8 0,8", 0, 46},
		{"0,0 10000,0 10000,10000 0,10000", 99980001, 40000}, {"0,0 10000,0 0,10000", 49985001, 30000}, {"0,0 10000,9999 0,10000", 49995000, 10002},
	} {
		for _, list := range ways(spots(x.text)) {
			inside, onSides, code := impl.SpotsInside(list)
			same(t, fmt.Sprint("spots inside of ", list), []any{inside, onSides, code}, []any{x.inside, x.onSides, int64(impl.OK)})
		}
	}
}

// insideOf counts the spots inside and those on sides one by one.
func insideOf(list []impl.Spot) (int64, int64) {
	var inside, onSides int64
	low, high := boxOf(list)
	for y := low.Y; y <= high.Y; y++ {
		for x := low.X; x <= high.X; x++ {
			switch placeIn(list, spot(x, y)) {
			case "inside":
				inside++
			case "edge":
				onSides++
			}
		}
	}
	return inside, onSides
}

// TestSpotsInsideOfStrips has outlines that are long and narrow, somewhere on the leather.
func TestSpotsInsideOfStrips(t *testing.T) {
	var n numbers
	for i := range int64(60) {
		narrow := outlineOf(&n, n.from(3, 7), 0, 6)
		by := spot(n.from(0, 100), n.from(0, 9000))
		for k, p := range narrow {
			// Each step to the right makes it go up, or down, by more.
			narrow[k] = spot(p.X+by.X, p.Y+by.Y+p.X*(1+i%30))
		}
		inside, onSides := insideOf(narrow)
		got, gotOn, code := impl.SpotsInside(narrow)
		same(t, fmt.Sprint("spots inside of ", narrow), []any{got, gotOn, code}, []any{inside, onSides, int64(impl.OK)})
	}
}
