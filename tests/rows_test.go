package tests

import (
	"fmt"
	"math/big"
	"slices"
	"strings"
	"testing"

	"loop.example/g01043/impl"
)

// wasteOf returns the share of the leather that is not covered, in lowest terms.
func wasteOf(list []impl.Block, roll, length int64) impl.Fraction {
	share := big.NewRat(areaOf(list), roll*length)
	share.Sub(big.NewRat(1, 1), share)
	return fraction(share.Num().Int64(), share.Denom().Int64())
}

// placesOnRoll returns the place of each block, across and along the roll.
func placesOnRoll(list []impl.Block, rows []int64) [][]int64 {
	var places [][]int64
	for i, k := range rows {
		var across int64
		for j := range i {
			if rows[j] == k {
				across += list[j].Width
			}
		}
		_, heights := widthsAndHeights(list, rows)
		places = append(places, []int64{across, totalOf(heights[:k])})
	}
	return places
}

// checkRows checks all functions of rows; fault is the first row with a fault, and length that of the rows if there is none.
func checkRows(t *testing.T, list []impl.Block, roll int64, rows []int64, fault, length int64) {
	t.Helper()
	name := fmt.Sprint(" of ", rows, " for ", list, " on ", roll)
	got, one := impl.RowsFault(list, roll, rows)
	same(t, "fault"+name, []any{got, one}, []any{fault, int64(impl.OK)})
	high, two := impl.HeightOfRows(list, roll, rows)
	waste, three := impl.WasteOfRows(list, roll, rows)
	places, four := impl.PlacesOnRoll(list, roll, rows)
	results := []any{high, two, waste, three, places, four}
	ok, state := int64(impl.OK), int64(impl.ErrState)
	switch {
	case fault >= 0:
		same(t, "results"+name, results, []any{int64(0), state, impl.Fraction{}, state, [][]int64(nil), state})
	case len(list) == 0:
		same(t, "results"+name, results, []any{int64(0), ok, impl.Fraction{}, int64(impl.ErrNotFound), [][]int64(nil), ok})
	default:
		same(t, "results"+name, results, []any{length, ok, wasteOf(list, roll, length), ok, placesOnRoll(list, rows), ok})
	}
}

func TestRows(t *testing.T) {
	nine, wide := strings.Repeat("20x7 ", 9), strings.Repeat("5000x5000 ", 9)
	for _, x := range []struct {
		list          string
		roll          int64
		rows          []int64
		fault, length int64
	}{
		{"30x10 30x8 40x9", 60, []int64{0, 0, 1}, -1, 19}, {"30x10 30x8 40x9", 60, []int64{0, 1, 0}, 0, 0}, {"30x10 30x8 40x9", 60, []int64{1, 0, 0}, 0, 0}, {"30x10 30x8 40x9", 60, []int64{0, 1, 1}, 1, 0}, {"30x10 30x8 40x9", 60, []int64{0, 1, 2}, -1, 27}, {"30x10 30x8 40x9", 60, []int64{2, 2, 2}, 2, 0}, {"30x10 30x8 40x9", 60, []int64{8, 8, 8}, 8, 0},
		{"", 60, nil, -1, 0}, {"", 1, []int64{}, -1, 0}, {"", 5000, nil, -1, 0},
		// Widths that are just the width of the roll together, and one more.
		{"30x10 30x8", 60, []int64{0, 0}, -1, 10}, {"30x10 30x8", 59, []int64{0, 0}, 0, 0}, {"30x10 31x8", 60, []int64{4, 4}, 4, 0}, {"30x10 31x8", 61, []int64{4, 4}, -1, 10}, {"60x10", 60, []int64{0}, -1, 10}, {"60x10 1x1", 60, []int64{0, 0}, 0, 0}, {"1x1 60x10", 60, []int64{8, 8}, 8, 0}, {"59x10 1x1", 60, []int64{8, 8}, -1, 10}, {nine, 180, repeated(3, 9), -1, 7}, {nine, 179, repeated(3, 9), 3, 0}, {nine, 60, []int64{0, 0, 0, 1, 1, 1, 2, 2, 2}, -1, 21}, {nine, 59, []int64{0, 0, 0, 1, 1, 1, 2, 2, 2}, 0, 0}, {"1x1 1x1", 1, []int64{0, 0}, 0, 0}, {"1x1 1x1", 2, []int64{0, 0}, -1, 1}, {"2500x1 2500x5000", 5000, []int64{0, 0}, -1, 5000}, {"2501x1 2500x5000", 5000, []int64{0, 0}, 0, 0},
		// The first of several rows with a fault, also where another row has the first block.
		{"40x1 40x1 40x1 40x1", 60, []int64{1, 1, 0, 0}, 0, 0}, {"40x1 40x1 40x1 40x1", 60, []int64{0, 0, 1, 1}, 0, 0}, {"40x1 40x1 40x1 40x1", 60, []int64{7, 3, 7, 3}, 3, 0}, {"40x1 40x1 40x1 40x1", 60, []int64{3, 7, 7, 3}, 3, 0}, {"40x1 40x1 40x1 40x1 60x1", 60, []int64{8, 8, 7, 7, 0}, 7, 0}, {"20x1 40x1 20x1 40x1 20x1", 60, []int64{0, 0, 1, 1, 1}, 1, 0}, {"40x1 40x1 40x1 40x1 40x1 40x1", 60, []int64{5, 5, 8, 8, 6, 6}, 5, 0}, {"40x1 40x1 40x1 40x1", 60, []int64{2, 1, 2, 2}, 2, 0},
		// Rows without a block in front of others and between them.
		{"30x10 30x8 40x9", 60, []int64{8, 8, 3}, -1, 19}, {"30x10 30x8 40x9", 60, []int64{3, 8, 5}, -1, 27}, {"30x10", 60, []int64{8}, -1, 10}, {"30x10", 60, []int64{4}, -1, 10}, {"30x10 30x8 40x9 1x1", 60, []int64{2, 2, 6, 8}, -1, 20}, {"30x10 30x8 40x9 1x1", 60, []int64{6, 6, 2, 0}, -1, 20},
		// The greatest Height of a row is that of any of its blocks; rows may be in any order.
		{"10x1 10x2 10x3", 60, []int64{0, 0, 0}, -1, 3}, {"10x3 10x2 10x1", 60, []int64{0, 0, 0}, -1, 3}, {"10x2 10x3 10x1", 60, []int64{0, 0, 0}, -1, 3}, {"10x5 10x3 10x5 10x3", 60, []int64{0, 1, 0, 1}, -1, 8}, {"10x5 10x3 10x5 10x3", 60, []int64{1, 0, 0, 1}, -1, 10}, {"10x5 10x3 10x4 10x2", 60, []int64{2, 1, 0, 2}, -1, 12}, {"10x7 10x7", 60, []int64{0, 1}, -1, 14}, {"10x7 10x7", 60, []int64{1, 0}, -1, 14},
		// As many rows as there may be.
		{nine, 60, []int64{0, 1, 2, 3, 4, 5, 6, 7, 8}, -1, 63}, {nine, 20, []int64{8, 7, 6, 5, 4, 3, 2, 1, 0}, -1, 63}, {nine, 20, []int64{0, 1, 2, 3, 4, 5, 6, 7, 7}, 7, 0}, {wide, 5000, []int64{0, 1, 2, 3, 4, 5, 6, 7, 8}, -1, 45000}, {wide, 5000, []int64{0, 1, 2, 3, 4, 5, 6, 8, 8}, 8, 0}, {wide, 5000, repeated(0, 9), 0, 0}, {"20x1 20x2 20x3 20x4 20x5 20x6 20x7 20x8 20x9", 60, []int64{8, 0, 7, 1, 6, 2, 5, 3, 4}, -1, 45},
	} {
		checkRows(t, blocks(x.list), x.roll, x.rows, x.fault, x.length)
	}
}

func TestWasteOfRows(t *testing.T) {
	for _, x := range []struct {
		list     string
		roll     int64
		rows     []int64
		num, den int64
	}{
		{"30x10 30x8 40x9", 60, []int64{0, 0, 1}, 4, 19}, {"30x10 30x8 40x9", 60, []int64{1, 2, 0}, 4, 9}, {"30x10", 60, []int64{0}, 1, 2}, {"1x1", 5000, []int64{0}, 4999, 5000}, {"1x1", 3, []int64{8}, 2, 3},
		// No waste.
		{"60x10", 60, []int64{0}, 0, 1}, {"60x10", 60, []int64{8}, 0, 1}, {"30x10 30x10", 60, []int64{0, 0}, 0, 1}, {"60x10 60x20", 60, []int64{0, 1}, 0, 1}, {"30x10 20x7 30x10 40x7", 60, []int64{0, 1, 0, 1}, 0, 1}, {"1x1", 1, []int64{0}, 0, 1}, {"5000x5000 5000x5000", 5000, []int64{3, 1}, 0, 1}, {strings.Repeat("20x7 ", 9), 180, repeated(0, 9), 0, 1}, {strings.Repeat("5000x5000 ", 9), 5000, []int64{0, 1, 2, 3, 4, 5, 6, 7, 8}, 0, 1}, {strings.Repeat("1x5000 ", 9), 1, []int64{8, 7, 6, 5, 4, 3, 2, 1, 0}, 0, 1},
		// Nearly none, and nearly all.
		{"59x10", 60, []int64{0}, 1, 60}, {"60x10 59x10", 60, []int64{0, 1}, 1, 120}, {"30x10 30x9", 60, []int64{0, 0}, 1, 20}, {"1x5000 1x1", 5000, []int64{0, 0}, 24994999, 25000000}, {"4999x5000 1x4999", 5000, []int64{0, 0}, 1, 25000000}, {strings.Repeat("1x5000 ", 9), 5000, []int64{0, 1, 2, 3, 4, 5, 6, 7, 8}, 4999, 5000},
	} {
		got, code := impl.WasteOfRows(blocks(x.list), x.roll, x.rows)
		same(t, fmt.Sprint("waste of ", x.rows, " for ", x.list, " on ", x.roll), []any{got, code}, []any{fraction(x.num, x.den), int64(impl.OK)})
	}
}

func TestPlacesOnRoll(t *testing.T) {
	for _, x := range []struct {
		list   string
		roll   int64
		rows   []int64
		places string
	}{
		{"30x10 30x8 40x9", 60, []int64{0, 0, 1}, "0,0 30,0 0,10"}, {"30x10 30x8 40x9", 60, []int64{1, 1, 0}, "0,9 30,9 0,0"}, {"30x10 30x8 40x9", 60, []int64{2, 1, 0}, "0,17 0,9 0,0"}, {"30x10 30x8 40x9", 60, []int64{8, 8, 3}, "0,9 30,9 0,0"}, {"30x10", 60, []int64{8}, "0,0"},
		{"10x1 20x2 5x3 7x9", 60, []int64{0, 0, 0, 0}, "0,0 10,0 30,0 35,0"}, {"10x1 20x2 5x3 7x9", 60, []int64{0, 1, 0, 1}, "0,0 0,3 10,0 20,3"}, {"10x1 20x2 5x3 7x9", 60, []int64{1, 0, 1, 0}, "0,9 0,0 10,9 20,0"}, {"10x1 20x2 5x3 7x9", 60, []int64{4, 6, 8, 2}, "0,9 0,10 0,12 0,0"}, {"7x5 7x5 7x5", 60, []int64{0, 1, 1}, "0,0 0,5 7,5"},
		{strings.Repeat("5000x5000 ", 9), 5000, []int64{8, 7, 6, 5, 4, 3, 2, 1, 0}, "0,40000 0,35000 0,30000 0,25000 0,20000 0,15000 0,10000 0,5000 0,0"}, {strings.Repeat("20x7 ", 9), 180, repeated(5, 9), "0,0 20,0 40,0 60,0 80,0 100,0 120,0 140,0 160,0"},
	} {
		got, code := impl.PlacesOnRoll(blocks(x.list), x.roll, x.rows)
		var want [][]int64
		for _, p := range spots(x.places) {
			want = append(want, []int64{p.X, p.Y})
		}
		same(t, fmt.Sprint("places of ", x.rows, " for ", x.list), []any{got, code}, []any{want, int64(impl.OK)})
	}
	for _, list := range [][]impl.Block{nil, {}} {
		got, code := impl.PlacesOnRoll(list, 60, []int64{})
		same(t, "places of no blocks", []any{got, code}, []any{[][]int64(nil), int64(impl.OK)})
	}
}

// someRows returns rows that look random, many of them in few rows.
func someRows(n *numbers, count int) []int64 {
	low := n.from(0, 8)
	high := n.from(low, 8)
	var rows []int64
	for range count {
		rows = append(rows, n.from(low, high))
	}
	return rows
}

// checkApart checks that no two blocks that are placed overlap, and that all of them are on the roll and not behind its length. It is for promise 12.
func checkApart(t *testing.T, list []impl.Block, roll int64, rows []int64) {
	t.Helper()
	name := fmt.Sprint(rows, " for ", list, " on ", roll)
	places, one := impl.PlacesOnRoll(list, roll, rows)
	length, two := impl.HeightOfRows(list, roll, rows)
	same(t, "codes of "+name, []any{one, two, len(places)}, []any{int64(impl.OK), int64(impl.OK), len(list)})
	for i, p := range places {
		across, along := p[0]+list[i].Width, p[1]+list[i].Height
		if p[0] < 0 || p[1] < 0 || across > roll || along > length {
			t.Errorf("%s: block %d at %v is not on the roll", name, i, p)
		}
		for k, q := range places[:i] {
			isBeside := across <= q[0] || q[0]+list[k].Width <= p[0]
			isBehind := along <= q[1] || q[1]+list[k].Height <= p[1]
			if !isBeside && !isBehind {
				t.Errorf("%s: the blocks %d at %v and %d at %v overlap", name, k, q, i, p)
			}
		}
	}
}

func TestManyRows(t *testing.T) {
	var n numbers
	found := map[int64]int{}
	for i := range int64(6000) {
		roll := []int64{3, 20, 100, 5000}[i/10%4]
		list := blocksOf(&n, i%10, max(1, roll/(1+i/40%4)), []int64{2, 10, 5000}[i/160%3])
		rows := someRows(&n, len(list))
		fault := faultOfRows(list, roll, rows)
		found[fault]++
		checkRows(t, list, roll, rows, fault, lengthOfRows(list, rows))
		if fault < 0 {
			checkApart(t, list, roll, rows)
		}
	}
	for fault := int64(-1); fault < 9; fault++ {
		if found[fault] < 10 {
			t.Errorf("only %d rows have the fault %d", found[fault], fault)
		}
	}
}

// TestAllRowsOfFewBlocks has all rows of up to three blocks, also with rows that have none.
func TestAllRowsOfFewBlocks(t *testing.T) {
	for _, list := range [][]impl.Block{nil, blocks("30x10"), blocks("30x10 31x8"), blocks("30x10 30x8 40x9"), blocks("20x5 20x5 20x5"), blocks("60x1 1x2 59x3")} {
		eachRows(len(list), 9, func(rows []int64) {
			checkRows(t, list, 60, rows, faultOfRows(list, 60, rows), lengthOfRows(list, rows))
		})
	}
}

// badRows returns rows with one thing each that is not as rows of so many blocks have it.
func badRows(count int) [][]int64 {
	all := [][]int64{repeated(0, count+1), repeated(8, count+1), repeated(9, count+1), repeated(0, count+2), repeated(0, 1000)}
	for fewer := range count {
		all = append(all, repeated(0, fewer), repeated(8, fewer), repeated(-1, fewer))
	}
	if count > 0 {
		all = append(all, nil, []int64{})
	}
	for i := range count {
		for _, k := range append([]int64{-1, 9, -2, 10, -9, 16, 64, 256}, farNumbers...) {
			for _, others := range []int64{0, 8} {
				rows := repeated(others, count)
				rows[i] = k
				all = append(all, rows)
			}
			all = append(all, repeated(k, count))
		}
	}
	return all
}

// checkRowsCodes calls all functions of rows with arguments for which they return a code.
func checkRowsCodes(t *testing.T, x nested, rows []int64, code int64) {
	t.Helper()
	fault, one := impl.RowsFault(x.list, x.roll, rows)
	length, two := impl.HeightOfRows(x.list, x.roll, rows)
	waste, three := impl.WasteOfRows(x.list, x.roll, rows)
	places, four := impl.PlacesOnRoll(x.list, x.roll, rows)
	same(t, fmt.Sprintf("results of %.100v for %.200v", rows, x), []any{fault, one, length, two, waste, three, places, four}, []any{int64(0), code, int64(0), code, impl.Fraction{}, code, [][]int64(nil), code})
}

// TestErrorsOfRows has each argument alone and together with others that are wrong, too: blocks that are not valid are found before rows that are none, and these before a row with a fault and before that there are no blocks.
func TestErrorsOfRows(t *testing.T) {
	for _, x := range badNests() {
		count := len(x.list)
		for _, rows := range [][]int64{repeated(0, count), repeated(8, count), repeated(9, count), repeated(-1, count+1), nil} {
			checkRowsCodes(t, x, rows, impl.ErrInvalid)
		}
		if count < 9 {
			checkRowsCodes(t, x, []int64{0, 1, 2, 3, 4, 5, 6, 7}[:count], impl.ErrInvalid)
		}
	}
	for _, x := range goodNests() {
		for _, rows := range badRows(len(x.list)) {
			checkRowsCodes(t, x, rows, impl.ErrRange)
		}
	}
	// Rows with a fault, if all numbers but one are left as they are.
	crowded := nested{slices.Repeat(blocks("60x60"), 9), 60}
	for i := range 9 {
		for _, k := range []int64{-1, 9} {
			rows := repeated(2, 9)
			rows[i] = k
			checkRowsCodes(t, crowded, rows, impl.ErrRange)
		}
	}
	for _, rows := range [][]int64{{0}, {-1}, {9}, repeated(0, 9)} {
		checkRowsCodes(t, nested{nil, 60}, rows, impl.ErrRange)
		checkRowsCodes(t, nested{nil, 0}, rows, impl.ErrInvalid)
	}
}
