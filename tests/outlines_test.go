package tests

import (
	"fmt"
	"math"
	"math/big"
	"regexp"
	"slices"
	"strings"
	"testing"

	"loop.example/g01043/impl"
)

func TestLimitsOfOutlines(t *testing.T) {
	same(t, "MaxCorners", impl.MaxCorners, 24)
	same(t, "MaxPlace", impl.MaxPlace, 10000)
}

// textsOfOutlines are outlines to the left and to the right, hollow and not hollow, at both ends of all ranges.
var textsOfOutlines = []string{
	"0,0 4,0 0,3", "0,0 0,3 4,0", "0,0 1,0 0,1", "10000,10000 9999,10000 10000,9999", "0,0 10000,0 0,10000", "0,0 10000,0 10000,10000 0,10000", "0,0 0,10000 10000,10000 10000,0", "10000,10000 0,10000 0,0 10000,0",
	"0,0 10000,9999 1,1", "0,0 9999,10000 1,1", "0,10000 10000,1 1,9999", "5,5 15,5 10,7 15,15 5,15", "0,0 4,0 4,4 0,4", "0,2 2,0 4,2 2,4", "7,3 9,4 8,6",
	// Sides on the same straight line, with something between them.
	"0,0 8,0 8,8 6,8 6,4 2,4 2,8 0,8", "0,0 3,0 4,1 5,0 8,0 4,8", "0,0 2,2 1,3 3,5 4,4 6,6 0,6", "0,4 4,0 6,0 6,1 9,1 9,0 12,0 12,8",
	// A corner that just does not reach a side, at an end of it and in between.
	"0,0 8,0 8,8 4,1 0,8", "0,0 10000,0 10000,10000 5000,1 0,10000", "0,0 8,0 8,8 1,1 0,8", "0,0 8,4 8,8 4,3 0,8", "0,0 10000,9999 10000,10000 2,2 0,10000", "0,0 10000,9999 10000,10000 9998,9998 0,10000",
	// Round and round.
	"0,0 10,0 10,10 2,10 2,4 6,4 6,6 4,6 4,8 8,8 8,2 0,2", "0,0 9,0 9,9 0,9 0,2 6,2 6,6 3,6 3,5 5,5 5,3 1,3 1,8 8,8 8,1 0,1",
}

// textsOfNoOutlines are closed lines of 3 or more corners with something that an outline has not.
var textsOfNoOutlines = []string{
	// Three corners on one straight line, in all directions, and back on it.
	"0,0 4,0 8,0", "0,0 0,4 0,8", "0,0 1,1 2,2", "0,2 1,1 2,0", "0,0 3,2 6,4", "0,0 8,0 4,0", "0,0 4,0 8,0 0,3", "0,0 4,0 2,0 0,3", "0,0 8,4 4,2 0,8", "0,0 2,4 4,8 0,8", "0,0 5000,4999 10000,9998 0,10000", "0,0 2,0 4,0 4,4 0,4", "0,0 1,0 3,0 3,3 0,3", "0,0 10000,0 5000,0 5000,1",
	// A corner that is there twice, or more often.
	"0,0 0,0 4,0", "0,0 4,0 4,0", "0,0 4,0 0,0", "0,0 0,0 0,0", "0,0 0,0 4,0 0,3", "0,0 4,0 0,0 0,3", "0,0 4,0 2,2 4,4 0,4 2,2", "2,2 0,0 4,0 2,2 4,4 0,4", "2,2 0,0 4,0 2,2 8,2 8,8 2,2 0,8 0,4", "0,0 4,0 4,4 0,0 4,0 4,4",
	// Sides that cross.
	"0,0 4,4 4,0 0,4", "0,0 4,0 0,4 4,4", "0,0 9,0 9,9 5,1 1,5 9,5 3,9", "0,0 10000,10000 10000,9999 0,1", "0,0 10000,10000 9999,10000 1,0", "4,0 6,8 0,3 8,3 2,8", "0,0 8,0 8,2 3,2 3,6 5,6 5,1 0,1",
	// Sides that touch in between.
	"0,0 8,0 8,8 4,0 0,8", "0,0 8,4 8,8 4,2 0,8", "0,0 6,3 8,8 4,2 0,8", "0,0 10000,0 10000,10000 1,0 0,10000", "0,0 10000,10000 5000,10000 9999,9999 0,9999", "0,0 8,0 8,4 4,4 4,0 2,4",
	// Sides that lie on one another, all of them or a part.
	"0,0 8,0 8,4 6,0 2,0 0,4", "0,0 8,0 8,4 2,0 6,0 0,4", "0,0 8,0 10,4 10,0 6,0 0,4", "0,0 6,0 7,3 8,0 4,0 4,9", "0,0 4,0 6,2 5,5 4,0 0,0 2,8", "0,0 4,0 4,4 2,4 0,0 4,0 4,9 0,9", "0,0 6,6 6,8 2,2 4,4 0,8",
}

// otherSpots are places that no corner and no spot may have.
var otherSpots = []impl.Spot{
	{X: -1}, {Y: -1}, {X: 10001}, {Y: 10001}, {X: -1, Y: -1}, {X: 10001, Y: 10001}, {X: 5, Y: -1}, {X: -1, Y: 10000}, {X: -10000, Y: -10000}, {X: 1 << 32, Y: 1}, {X: 1, Y: 1 << 32}, {X: -1 << 32, Y: 2},
	{X: math.MinInt64}, {Y: math.MinInt64}, {X: math.MaxInt64}, {Y: math.MaxInt64}, {X: math.MinInt64, Y: math.MaxInt64}, {X: math.MaxInt64, Y: math.MinInt64}, {X: math.MinInt64, Y: math.MinInt64}, {X: math.MaxInt64 - 1, Y: math.MaxInt64},
}

func goodOutlines() [][]impl.Spot {
	all := [][]impl.Spot{bow(3), bow(4), bow(23), bow(24)}
	for _, text := range textsOfOutlines {
		all = append(all, ways(spots(text))...)
	}
	return all
}

// badOutlines returns lists that are no outline. Those that are too long or too short, or that have other places, have nothing else that is wrong.
func badOutlines() [][]impl.Spot {
	all := [][]impl.Spot{nil, {}, bow(1), bow(2), bow(25), bow(26), bow(100), make([]impl.Spot, 1000)}
	for _, text := range textsOfNoOutlines {
		all = append(all, ways(spots(text))...)
	}
	for _, p := range otherSpots {
		all = append(all, []impl.Spot{p, spot(4, 3), spot(3, 4)}, []impl.Spot{spot(4, 3), p, spot(3, 4)}, []impl.Spot{spot(3, 4), spot(4, 3), p}, append(bow(23), p), []impl.Spot{p, p, p})
	}
	return all
}

func TestValidOutline(t *testing.T) {
	for _, list := range goodOutlines() {
		same(t, fmt.Sprint("is valid: ", list), impl.ValidOutline(list), true)
	}
	for _, list := range badOutlines() {
		same(t, fmt.Sprint("is valid: ", list), impl.ValidOutline(list), false)
	}
}

// TestEndsOfPlaces moves corners just out of their range, and back.
func TestEndsOfPlaces(t *testing.T) {
	for _, x := range []struct {
		by   impl.Spot
		want bool
	}{{spot(0, 0), true}, {spot(-1, 0), false}, {spot(0, -1), false}, {spot(1, 0), false}, {spot(0, 1), false}} {
		for _, text := range []string{"0,0 10000,0 10000,10000 0,10000", "0,5000 5000,0 10000,5000 5000,10000"} {
			list := spots(text)
			for i, p := range list {
				list[i] = spot(p.X+x.by.X, p.Y+x.by.Y)
			}
			same(t, fmt.Sprint("is valid: ", list), impl.ValidOutline(list), x.want)
		}
	}
}

// onGrid returns the list of count spots with a number, of all lists on a square with width places in each row.
func onGrid(number, count, width int64) []impl.Spot {
	var list []impl.Spot
	for range count {
		list = append(list, spot(number%width, number/width%width))
		number /= width * width
	}
	return list
}

// checkVerdict compares with isOutline for spots on leather, and returns whether they are an outline. So many lists are checked that the first fault ends the test.
func checkVerdict(t *testing.T, list []impl.Spot) bool {
	t.Helper()
	got := impl.ValidOutline(list)
	if got != isOutline(list) {
		t.Fatalf("is valid: %v: got %v", list, got)
	}
	return got
}

// TestAllSmallOutlines compares all lists of 3 to 6 corners on small squares with isOutline.
func TestAllSmallOutlines(t *testing.T) {
	for _, x := range []struct{ count, width, lists int64 }{{1, 2, 4}, {2, 2, 16}, {3, 4, 4096}, {4, 4, 65536}, {5, 3, 59049}, {6, 3, 531441}} {
		valid := 0
		for number := range x.lists {
			if checkVerdict(t, onGrid(number, x.count, x.width)) {
				valid++
			}
		}
		if (valid > 100) != (x.count > 2) {
			t.Errorf("%d lists of %d corners are outlines", valid, x.count)
		}
	}
}

// TestOutlinesAtTheEnds has corners that are near one another or far apart, so that many of them just meet a side or just do not.
func TestOutlinesAtTheEnds(t *testing.T) {
	var n numbers
	places := []int64{0, 1, 2, 4999, 5000, 5001, 9998, 9999, 10000}
	valid := 0
	for i := range int64(200000) {
		var list []impl.Spot
		for range 3 + i%5 {
			list = append(list, spot(places[n.from(0, 8)], places[n.from(0, 8)]))
		}
		if checkVerdict(t, list) {
			valid++
		}
	}
	if valid < 50000 {
		t.Errorf("only %d lists are outlines", valid)
	}
}

// TestMovedCorners moves one corner of an outline to some other place.
func TestMovedCorners(t *testing.T) {
	var n numbers
	var valid, all int
	for _, list := range outlinesOf(&n, 8) {
		same(t, fmt.Sprint("is valid: ", list), impl.ValidOutline(list), true)
		for k := range list {
			moved := slices.Clone(list)
			for _, p := range []impl.Spot{list[n.from(0, int64(len(list)-1))], spot(list[k].X+n.from(-2, 2), list[k].Y+n.from(-2, 2)), spot(n.from(0, 30), n.from(0, 30))} {
				moved[k] = p
				if p.X < 0 || p.Y < 0 || p.X > 10000 || p.Y > 10000 {
					continue
				}
				all++
				if checkVerdict(t, moved) {
					valid++
				}
			}
		}
	}
	if valid < 1000 || all-valid < 1000 {
		t.Errorf("%d of %d lists are outlines", valid, all)
	}
}

func TestSameOutline(t *testing.T) {
	lists := [][]impl.Spot{nil, spots("0,0"), spots("0,1"), spots("1,0"), spots("0,0 4,0 0,3"), spots("4,0 0,3 0,0"), spots("0,3 4,0 0,0"), spots("0,0 4,0 0,4"), spots("0,0 4,0 1,3"), spots("0,0 4,0"), spots("0,0 4,0 0,3 0,3"), spots("0,0 0,0 0,0"), otherSpots, bow(24), bow(25)}
	for i, a := range lists {
		for j, b := range lists {
			same(t, fmt.Sprint("are the same: ", a, " and ", b), impl.SameOutline(a, slices.Clone(b)), i == j)
		}
	}
	same(t, "nil and empty", impl.SameOutline(nil, []impl.Spot{}), true)
	same(t, "empty and nil", impl.SameOutline([]impl.Spot{}, nil), true)
}

// TestExampleOfOutlines is the example of chapter 7.
func TestExampleOfOutlines(t *testing.T) {
	list, ok := impl.ReadOutline("0,0 4,0 0,3")
	same(t, "outline", []any{list, ok}, []any{[]impl.Spot{{}, {X: 4}, {Y: 3}}, true})
	twice, code := impl.TwiceArea(list)
	same(t, "twice the area", []any{twice, code}, []any{int64(12), int64(impl.OK)})
	inside, _, code := impl.SpotsInside(list)
	same(t, "inside", []any{inside, code}, []any{int64(3), int64(impl.OK)})
}

func TestTwiceArea(t *testing.T) {
	for _, x := range []struct {
		text  string
		twice int64
		left  bool
	}{
		{"0,0 4,0 0,3", 12, true}, {"0,0 1,0 0,1", 1, true}, {"0,0 10000,0 10000,10000 0,10000", 200000000, true}, {"0,0 10000,0 0,10000", 100000000, true}, {"0,0 10000,9999 1,1", 1, true}, {"0,0 9999,10000 1,1", 1, false}, {"5,5 15,5 10,7 15,15 5,15", 150, true}, {"7,3 9,4 8,6", 5, true}, {"0,2 2,0 4,2 2,4", 16, true},
		{"9996,9997 10000,9997 9996,10000", 12, true}, {"0,0 8,0 8,8 6,8 6,4 2,4 2,8 0,8", 96, true}, {"0,0 10,0 10,10 2,10 2,4 6,4 6,6 4,6 4,8 8,8 8,2 0,2", 120, true}, {"10000,0 9999,10000 9998,0", 20000, true},
	} {
		for i, list := range ways(spots(x.text)) {
			name := fmt.Sprint(list)
			twice, code := impl.TwiceArea(list)
			same(t, "twice the area of "+name, []any{twice, code}, []any{x.twice, int64(impl.OK)})
			// Every second way goes around in the opposite direction.
			left, code := impl.IsLeftHanded(list)
			same(t, "to the left: "+name, []any{left, code}, []any{x.left == (i%2 == 0), int64(impl.OK)})
		}
	}
	for count := int64(3); count <= 24; count++ {
		left, code := impl.IsLeftHanded(bow(count))
		same(t, fmt.Sprint("to the left: ", count), []any{left, code}, []any{true, int64(impl.OK)})
	}
}

// TestAreasOfOutlines adds the areas between each side and the straight line with Y 0.
func TestAreasOfOutlines(t *testing.T) {
	var n numbers
	var lefts int
	lists := outlinesOf(&n, 20)
	for _, list := range lists {
		sum := new(big.Int)
		for i, a := range list {
			b := list[(i+1)%len(list)]
			sum.Add(sum, new(big.Int).Mul(big.NewInt(a.X-b.X), big.NewInt(a.Y+b.Y)))
		}
		name := fmt.Sprint(list)
		twice, one := impl.TwiceArea(list)
		same(t, "twice the area of "+name, []any{big.NewInt(twice).String(), one}, []any{new(big.Int).Abs(sum).String(), int64(impl.OK)})
		left, two := impl.IsLeftHanded(list)
		same(t, "to the left: "+name, []any{left, two}, []any{sum.Sign() > 0, int64(impl.OK)})
		if left {
			lefts++
		}
	}
	if lefts < 100 || len(lists)-lefts < 100 {
		t.Errorf("%d of %d outlines go to the left", lefts, len(lists))
	}
}

// checkOutlineCodes calls all functions of one list with a list for which they return nothing.
func checkOutlineCodes(t *testing.T, list []impl.Spot, p impl.Spot, quarters int64) {
	t.Helper()
	name, bad, none := fmt.Sprint(list), int64(impl.ErrInvalid), []impl.Spot(nil)
	twice, code := impl.TwiceArea(list)
	same(t, "twice the area of "+name, []any{twice, code}, []any{int64(0), bad})
	left, code := impl.IsLeftHanded(list)
	same(t, "to the left: "+name, []any{left, code}, []any{false, bad})
	place, code := impl.PlaceOfSpot(list, p)
	same(t, fmt.Sprint("place of ", p, " in ", name), []any{place, code}, []any{"", bad})
	low, high, code := impl.BoxOf(list)
	same(t, "box of "+name, []any{low, high, code}, []any{impl.Spot{}, impl.Spot{}, bad})
	hull, code := impl.HullOf(list)
	same(t, "hull of "+name, []any{hull, code}, []any{none, bad})
	hollow, code := impl.IsHollow(list)
	same(t, "is hollow: "+name, []any{hollow, code}, []any{false, bad})
	mirrored, code := impl.MirrorOutline(list)
	same(t, "mirrored "+name, []any{mirrored, code}, []any{none, bad})
	turned, code := impl.TurnOutline(list, quarters)
	same(t, fmt.Sprint(quarters, " quarters of ", name), []any{turned, code}, []any{none, bad})
	inside, onSides, code := impl.SpotsInside(list)
	same(t, "spots inside of "+name, []any{inside, onSides, code}, []any{int64(0), int64(0), bad})
	same(t, "text of "+name, impl.OutlineText(list), "")
}

// TestErrorsOfOutlines has each list that is no outline with spots and quarters in their range, and with others, which are checked later.
func TestErrorsOfOutlines(t *testing.T) {
	for i, list := range badOutlines() {
		checkOutlineCodes(t, list, spot(0, 0), 0)
		checkOutlineCodes(t, list, spot(2, 1), 3)
		checkOutlineCodes(t, list, otherSpots[i%len(otherSpots)], badQuarters[i%len(badQuarters)])
	}
}

func TestOutlineText(t *testing.T) {
	for _, text := range textsOfOutlines {
		same(t, "text", impl.OutlineText(spots(text)), text)
		list, ok := impl.ReadOutline(text)
		same(t, "outline of "+text, []any{list, ok}, []any{spots(text), true})
	}
	var n numbers
	for _, list := range append(outlinesOf(&n, 12), bow(24), bow(3)) {
		text := writtenOf(list)
		same(t, "text", impl.OutlineText(list), text)
		read, ok := impl.ReadOutline(text)
		same(t, "outline of "+text, []any{read, ok}, []any{list, true})
	}
}

// writtenOf writes corners as an outline, which they need not be.
func writtenOf(list []impl.Spot) string {
	words := make([]string, 0, len(list))
	for _, p := range list {
		words = append(words, fmt.Sprintf("%d,%d", p.X, p.Y))
	}
	return strings.Join(words, " ")
}

// noTextsOfOutlines are texts that are not written as outlines are.
var noTextsOfOutlines = []string{
	"", " ", ",", ", , ,", "0", "0,0", "0,0 4,0", "0 0 4 0 0 3", "0,0,4,0,0,3", "0,0;4,0;0,3", "0,0 4,0 0", "0,0 4,0 0,", "0,0 4,0 ,3", "0,0 4,0 3", "0,0 4,0 0,3,", "0,0 4,0 0,3,1", "0,0 4,0,0 0,3", ",0,0 4,0 0,3",
	" 0,0 4,0 0,3", "0,0 4,0 0,3 ", "0,0  4,0 0,3", "0,0 4,0  0,3", "0, 0 4,0 0,3", "0 ,0 4,0 0,3", "0,0 4, 0 0,3", "0,0 4 ,0 0,3", "0,0 4,0 0,3\n", "\n0,0 4,0 0,3", "0,0\n4,0 0,3", "0,0\t4,0 0,3", "0,0 4,0 0,3\x00", "0,0\u00a04,0 0,3",
	"+0,0 4,0 0,3", "0,0 +4,0 0,3", "0,0 4,0 0,+3", "-0,0 4,0 0,3", "0,-0 4,0 0,3", "0,0 4,-0 0,3", "0,0 4,0 0,-3", "0,0 -4,0 0,3", "0,0 4,0 --0,3", "-1,0 4,0 0,3",
	"00,0 4,0 0,3", "0,00 4,0 0,3", "0,0 04,0 0,3", "0,0 4,0 0,03", "0,0 4,0 0,3.0", "0,0 4.0,0 0,3", "0,0 4e0,0 0,3", "0,0 0x4,0 0,3", "0,0 4,0 0,a", "a,b c,d e,f", "0,0 4_0,0 0,3", "0,0 ٤,0 0,3", "\xff,0 4,0 0,3",
	"0.0 4.0 0.3", "0/0 4/0 0/3", "0:0 4:0 0:3", "0;0 4;0 0;3", "(0,0) (4,0) (0,3)", "0,0-4,0-0,3", "0,0, 4,0, 0,3", "0,0 | 4,0 | 0,3",
	"0,0 10001,0 0,3", "0,0 4,0 0,10001", "0,0 4,0 0,999999999999999999", "0,0 4,0 0,1000000000000000000", "0,0 9223372036854775807,0 0,3", "0,0 18446744073709551620,0 0,3", "0,0 18446744073709551616,0 0,3",
}

func TestReadOutlineOfOtherTexts(t *testing.T) {
	texts := append(slices.Clone(noTextsOfOutlines), strings.Repeat(" ", 100000), strings.Repeat(",", 100000), strings.Repeat("0,0 ", 100000), strings.Repeat("9", 100000)+",0 4,0 0,3", writtenOf(bow(24))+" ", writtenOf(bow(24))+" 0", writtenOf(bow(24))+" x", " "+writtenOf(bow(24)), writtenOf(bow(24))+" "+writtenOf(bow(24)))
	for _, list := range badOutlines() {
		texts = append(texts, writtenOf(list))
	}
	for _, text := range texts {
		list, ok := impl.ReadOutline(text)
		same(t, "outline of "+fmt.Sprintf("%.200q", text), []any{list, ok}, []any{[]impl.Spot(nil), false})
	}
}

// TestReadOutlineOfChangedTexts changes one byte of a text, and reads it as the document tells.
func TestReadOutlineOfChangedTexts(t *testing.T) {
	var n numbers
	form := regexp.MustCompile(`^(0|[1-9][0-9]{0,4}),(0|[1-9][0-9]{0,4})( (0|[1-9][0-9]{0,4}),(0|[1-9][0-9]{0,4}))*$`)
	const others = "0123456789,, +-\n\x00"
	read := 0
	for _, list := range outlinesOf(&n, 16) {
		text := writtenOf(list)
		for range 12 {
			changed := changedText(&n, text, others)
			var want []impl.Spot
			if form.MatchString(changed) {
				want = spots(changed)
			}
			isThere := impl.ValidOutline(want)
			if !isThere {
				want = nil
			}
			got, ok := impl.ReadOutline(changed)
			same(t, "outline of "+changed, []any{got, ok}, []any{want, isThere})
			if ok {
				same(t, "text", impl.OutlineText(got), changed)
				read++
			}
		}
	}
	if read < 500 {
		t.Errorf("only %d of the changed texts are read", read)
	}
}
