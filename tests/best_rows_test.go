package tests

import (
	"fmt"
	"slices"
	"strings"
	"testing"

	"loop.example/g01043/impl"
)

// TestExampleOfNesting is the example of the chapter.
func TestExampleOfNesting(t *testing.T) {
	list := []impl.Block{{Width: 30, Height: 10}, {Width: 30, Height: 8}, {Width: 40, Height: 9}}
	least, code := impl.LeastHeight(list, 60)
	same(t, "least length", []any{least, code}, []any{int64(19), int64(impl.OK)})
	checkPacked(t, list, 60, []int64{0, 0, 1}, 19)
}

func checkPut(t *testing.T, list []impl.Block, roll int64, first, tall []int64) {
	t.Helper()
	one, code := impl.FirstRows(list, roll)
	same(t, fmt.Sprint("first rows for ", list, " on ", roll), []any{one, code}, []any{first, int64(impl.OK)})
	other, code := impl.TallRows(list, roll)
	same(t, fmt.Sprint("tall rows for ", list, " on ", roll), []any{other, code}, []any{tall, int64(impl.OK)})
}

func TestFirstAndTallRows(t *testing.T) {
	for _, x := range []struct {
		list        string
		roll        int64
		first, tall []int64
	}{
		{"30x5 40x20 20x19 30x4", 60, []int64{0, 1, 0, 2}, []int64{1, 0, 0, 1}}, {"30x10 30x8 40x9", 60, []int64{0, 0, 1}, []int64{0, 0, 1}}, {"", 60, nil, nil}, {"", 1, nil, nil}, {"60x5", 60, []int64{0}, []int64{0}}, {"1x1", 5000, []int64{0}, []int64{0}},
		// Just the width of the roll, and one more.
		{"30x10 30x8", 60, []int64{0, 0}, []int64{0, 0}}, {"30x10 31x8", 60, []int64{0, 1}, []int64{0, 1}}, {"30x8 31x10", 60, []int64{0, 1}, []int64{1, 0}}, {"60x10 1x8", 60, []int64{0, 1}, []int64{0, 1}}, {"1x8 60x10", 60, []int64{0, 1}, []int64{1, 0}}, {"1x8 59x10", 60, []int64{0, 0}, []int64{0, 0}}, {"2500x1 2500x2 1x3", 5000, []int64{0, 0, 1}, []int64{1, 0, 0}},
		// Into an earlier row again, and never into a later one that would do as well.
		{"40x3 30x3 20x3 30x3 1x3", 60, []int64{0, 1, 0, 1, 2}, []int64{0, 1, 0, 1, 2}}, {"40x3 40x3 40x3 20x3 20x3 20x3", 60, []int64{0, 1, 2, 0, 1, 2}, []int64{0, 1, 2, 0, 1, 2}}, {"40x3 50x3 10x3 10x3 10x3", 60, []int64{0, 1, 0, 0, 1}, []int64{0, 1, 0, 0, 1}}, {"31x1 31x1 29x1 29x1 1x1", 60, []int64{0, 1, 0, 1, 2}, []int64{0, 1, 0, 1, 2}}, {"31x1 31x2 31x3 29x4 29x5 29x6", 60, []int64{0, 1, 2, 0, 1, 2}, []int64{3, 2, 1, 1, 0, 0}},
		// Rows may have gone up and down before.
		{"20x1 20x2 20x3 20x4 20x5 20x6", 60, []int64{0, 0, 0, 1, 1, 1}, []int64{1, 1, 1, 0, 0, 0}}, {"20x6 20x5 20x4 20x3 20x2 20x1", 60, []int64{0, 0, 0, 1, 1, 1}, []int64{0, 0, 0, 1, 1, 1}}, {"20x1 20x6 20x2 20x5 20x3 20x4", 60, []int64{0, 0, 0, 1, 1, 1}, []int64{1, 0, 1, 0, 1, 0}},
		// Equal Heights stay in their order, whatever their Widths are.
		{"10x5 40x5 30x5 20x5", 60, []int64{0, 0, 1, 1}, []int64{0, 0, 1, 1}}, {"10x5 40x5 30x5 20x6", 60, []int64{0, 0, 1, 1}, []int64{0, 1, 0, 0}}, {"50x5 40x5 10x5 20x5 10x5", 60, []int64{0, 1, 0, 1, 2}, []int64{0, 1, 0, 1, 2}}, {"10x4 50x5 20x5 40x5 10x5", 60, []int64{0, 0, 1, 1, 2}, []int64{2, 0, 1, 1, 0}}, {"50x4 10x5 40x4 10x5 10x4", 60, []int64{0, 0, 1, 1, 1}, []int64{1, 0, 0, 0, 1}},
		{strings.Repeat("20x7 ", 9), 60, []int64{0, 0, 0, 1, 1, 1, 2, 2, 2}, []int64{0, 0, 0, 1, 1, 1, 2, 2, 2}}, {strings.Repeat("20x7 ", 9), 59, []int64{0, 0, 1, 1, 2, 2, 3, 3, 4}, []int64{0, 0, 1, 1, 2, 2, 3, 3, 4}}, {strings.Repeat("20x7 ", 9), 180, repeated(0, 9), repeated(0, 9)},
		// As many rows as there may be.
		{strings.Repeat("31x7 ", 9), 60, []int64{0, 1, 2, 3, 4, 5, 6, 7, 8}, []int64{0, 1, 2, 3, 4, 5, 6, 7, 8}}, {"60x1 60x2 60x3 60x4 60x5 60x6 60x7 60x8 60x9", 60, []int64{0, 1, 2, 3, 4, 5, 6, 7, 8}, []int64{8, 7, 6, 5, 4, 3, 2, 1, 0}}, {"60x5 60x9 60x1 60x9 60x5 60x1 60x9 60x5 60x1", 60, []int64{0, 1, 2, 3, 4, 5, 6, 7, 8}, []int64{3, 0, 6, 1, 4, 7, 2, 5, 8}}, {strings.Repeat("5000x5000 ", 9), 5000, []int64{0, 1, 2, 3, 4, 5, 6, 7, 8}, []int64{0, 1, 2, 3, 4, 5, 6, 7, 8}}, {strings.Repeat("60x7 ", 8) + "1x8", 60, []int64{0, 1, 2, 3, 4, 5, 6, 7, 8}, []int64{1, 2, 3, 4, 5, 6, 7, 8, 0}}, {strings.Repeat("31x7 ", 8) + "29x7", 60, []int64{0, 1, 2, 3, 4, 5, 6, 7, 0}, []int64{0, 1, 2, 3, 4, 5, 6, 7, 0}},
	} {
		checkPut(t, blocks(x.list), x.roll, x.first, x.tall)
	}
}

// putInto puts blocks into rows in some order, each one into the first row in which it leaves no fault.
func putInto(list []impl.Block, roll int64, order []int) []int64 {
	rows := make([]int64, len(list))
	var there []impl.Block
	var numbers []int64
	for _, i := range order {
		there = append(there, list[i])
		k := int64(0)
		for faultOfRows(there, roll, append(slices.Clone(numbers), k)) >= 0 {
			k++
		}
		numbers = append(numbers, k)
		rows[i] = k
	}
	return rows
}

// someBlocks returns blocks for a roll, small ones and such as are nearly as wide as the roll; in some lists, many of them are as high or equal.
func someBlocks(n *numbers, i, count, roll int64) []impl.Block {
	width := max(1, roll/(1+i%4))
	list := blocksOf(n, count, width, []int64{1, 3, 12, 5000}[i/4%4])
	for k := range list {
		switch n.from(0, 9) {
		case 0:
			list[k] = list[0]
		case 1:
			list[k].Width = roll
		case 2:
			list[k].Width = max(1, (roll+n.from(0, 1))/2)
		case 3, 4, 5:
			list[k].Width = n.from(1+roll/6, 1+roll/2)
		}
		list[k].Width = min(list[k].Width, roll)
	}
	return list
}

// manyRolls are widths of rolls on which many blocks just go into a row or just do not.
var manyRolls = []int64{1, 2, 3, 5, 8, 20, 100, 5000}

func TestFirstAndTallRowsOfManyBlocks(t *testing.T) {
	var n numbers
	var different, shorter int
	for i := range int64(4000) {
		roll := manyRolls[i/10%8]
		list := someBlocks(&n, i/80, i%10, roll)
		var order []int
		for k := range list {
			order = append(order, k)
		}
		first := putInto(list, roll, order)
		slices.SortStableFunc(order, func(a, b int) int { return int(list[b].Height - list[a].Height) })
		tall := putInto(list, roll, order)
		checkPut(t, list, roll, first, tall)
		checkApart(t, list, roll, first)
		checkApart(t, list, roll, tall)
		if !slices.Equal(first, tall) {
			different++
		}
		if lengthOfRows(list, tall) < lengthOfRows(list, first) {
			shorter++
		}
	}
	if different < 1000 || shorter < 500 {
		t.Errorf("%d tall rows are other ones, %d are shorter", different, shorter)
	}
}

// checkPacked checks the best rows and their length.
func checkPacked(t *testing.T, list []impl.Block, roll int64, best []int64, least int64) {
	t.Helper()
	name := fmt.Sprint(" for ", list, " on ", roll)
	rows, code := impl.BestRows(list, roll)
	same(t, "best rows"+name, []any{rows, code}, []any{best, int64(impl.OK)})
	length, code := impl.LeastHeight(list, roll)
	same(t, "least length"+name, []any{length, code}, []any{least, int64(impl.OK)})
}

func TestBestRows(t *testing.T) {
	for _, x := range []struct {
		list  string
		roll  int64
		best  []int64
		least int64
	}{
		{"30x10 30x8 40x9", 60, []int64{0, 0, 1}, 19}, {"30x5 40x20 20x19 30x4", 60, []int64{0, 1, 1, 0}, 25}, {"", 60, nil, 0}, {"", 1, nil, 0}, {"", 5000, nil, 0}, {"60x7", 60, []int64{0}, 7}, {"1x5000", 5000, []int64{0}, 5000}, {"1x1", 1, []int64{0}, 1}, {"5000x5000", 5000, []int64{0}, 5000},
		// Just the width of the roll, and one more.
		{"30x10 30x8", 60, []int64{0, 0}, 10}, {"30x10 31x8", 60, []int64{0, 1}, 18}, {"60x10 1x8", 60, []int64{0, 1}, 18}, {"59x10 1x8", 60, []int64{0, 0}, 10}, {"1x1 1x1", 1, []int64{0, 1}, 2}, {"1x1 1x1", 2, []int64{0, 0}, 1}, {"2500x1 2501x1", 5000, []int64{0, 1}, 2}, {"2500x1 2500x1", 5000, []int64{0, 0}, 1},
		// Several best rows of the same length: those that have the lesser number at the first place where they differ.
		{"30x5 30x5 30x5", 60, []int64{0, 0, 1}, 10}, {"30x5 30x5 30x5 30x5", 60, []int64{0, 0, 1, 1}, 10}, {"30x9 30x5 30x5", 60, []int64{0, 0, 1}, 14}, {"30x5 30x9 30x5", 60, []int64{0, 0, 1}, 14}, {"30x5 30x5 30x9", 60, []int64{0, 0, 1}, 14}, {"40x5 20x5 20x5", 60, []int64{0, 0, 1}, 10}, {"20x5 40x5 20x5 40x5", 60, []int64{0, 0, 1, 1}, 10}, {"20x5 20x5 40x5 40x5", 60, []int64{0, 1, 0, 1}, 10}, {"40x5 40x5 20x5 20x5", 60, []int64{0, 1, 0, 1}, 10}, {"40x9 40x9 10x5 10x5", 60, []int64{0, 1, 0, 0}, 18}, {"40x9 40x9 10x5 10x5 10x9", 60, []int64{0, 1, 0, 0, 1}, 18}, {"60x9 30x5 30x5", 60, []int64{0, 1, 1}, 14}, {"10x1 10x1 10x1 60x1", 60, []int64{0, 0, 0, 1}, 2}, {"60x1 10x1 10x1 10x1", 60, []int64{0, 1, 1, 1}, 2}, {"10x2 60x1 10x1 10x1", 60, []int64{0, 1, 0, 0}, 3},
		// The tallest blocks are together in the best rows, or just not.
		{"30x9 30x5 30x9 30x5", 60, []int64{0, 1, 0, 1}, 14}, {"30x9 30x5 30x5 30x9", 60, []int64{0, 1, 1, 0}, 14}, {"20x9 40x8 40x9", 60, []int64{0, 1, 0}, 17}, {"50x10 30x9 30x9 10x10", 60, []int64{0, 1, 1, 0}, 19}, {"31x9 31x8 29x2 29x1", 60, []int64{0, 1, 0, 1}, 17}, {"31x9 31x8 29x2 29x8", 60, []int64{0, 1, 0, 1}, 17}, {"31x9 29x2 31x8 29x8", 60, []int64{0, 0, 1, 1}, 17}, {"31x9 29x8 31x8 29x9", 60, []int64{0, 1, 1, 0}, 17}, {"20x10 20x10 25x9 20x9 15x9 20x9", 60, []int64{0, 0, 1, 0, 1, 1}, 19},
		// Rows that leave no waste.
		{"20x5 20x5 20x5", 60, []int64{0, 0, 0}, 5}, {"35x9 25x8 25x9 35x8", 60, []int64{0, 1, 0, 1}, 17}, {"35x9 25x8 25x9 35x8 60x1", 60, []int64{0, 1, 0, 1, 2}, 18}, {"60x1 60x2 60x3", 60, []int64{0, 1, 2}, 6}, {"10x4 20x4 30x4 15x7 25x7 20x7 33x2 20x2 7x2", 60, []int64{0, 0, 0, 1, 1, 1, 2, 2, 2}, 13},
		// As many blocks and rows as there may be.
		{strings.Repeat("20x7 ", 9), 60, []int64{0, 0, 0, 1, 1, 1, 2, 2, 2}, 21}, {strings.Repeat("20x7 ", 9), 180, repeated(0, 9), 7}, {strings.Repeat("31x7 ", 9), 60, []int64{0, 1, 2, 3, 4, 5, 6, 7, 8}, 63}, {strings.Repeat("5000x5000 ", 9), 5000, []int64{0, 1, 2, 3, 4, 5, 6, 7, 8}, 45000}, {strings.Repeat("1x5000 ", 9), 5000, repeated(0, 9), 5000}, {strings.Repeat("1x5000 ", 9), 1, []int64{0, 1, 2, 3, 4, 5, 6, 7, 8}, 45000}, {"20x1 20x2 20x3 20x4 20x5 20x6 20x7 20x8 20x9", 60, []int64{0, 0, 0, 1, 1, 1, 2, 2, 2}, 18}, {"20x1 20x4 20x7 20x2 20x5 20x8 20x3 20x6 20x9", 60, []int64{0, 1, 2, 0, 1, 2, 0, 1, 2}, 18}, {"20x9 20x8 20x7 20x6 20x5 20x4 20x3 20x2 20x1", 60, []int64{0, 0, 0, 1, 1, 1, 2, 2, 2}, 18}, {strings.Repeat("31x7 ", 8) + "29x7", 60, []int64{0, 1, 2, 3, 4, 5, 6, 7, 0}, 56}, {strings.Repeat("60x1 ", 8) + "1x5000", 60, []int64{0, 1, 2, 3, 4, 5, 6, 7, 8}, 5008},
	} {
		checkPacked(t, blocks(x.list), x.roll, x.best, x.least)
	}
}

// checkBestRows compares the best rows with all others, and returns how many are as short.
func checkBestRows(t *testing.T, list []impl.Block, roll int64) int64 {
	t.Helper()
	best, least, ties := bestRowsOf(list, roll)
	checkPacked(t, list, roll, best, least)
	checkRows(t, list, roll, best, -1, least)
	checkApart(t, list, roll, best)
	bound, _ := impl.HeightBound(list, roll)
	first, _ := impl.FirstRows(list, roll)
	tall, _ := impl.TallRows(list, roll)
	if bound > least || lengthOfRows(list, first) < least || lengthOfRows(list, tall) < least {
		t.Errorf("the least length %d for %v on %d is less than %d, or greater than that of %v or %v", least, list, roll, bound, first, tall)
	}
	return ties
}

// TestBestRowsAreTheShortest is for promise 12: it looks at all ways in which blocks can be parted into rows.
func TestBestRowsAreTheShortest(t *testing.T) {
	var n numbers
	var several, one, better int
	for i := range int64(1600) {
		roll := manyRolls[i/5%8]
		list := someBlocks(&n, i/40, 3+i%5, roll)
		if ties := checkBestRows(t, list, roll); ties > 1 {
			several++
		} else {
			one++
		}
		tall, _ := impl.TallRows(list, roll)
		if least, _ := impl.LeastHeight(list, roll); least < lengthOfRows(list, tall) {
			better++
		}
	}
	if several < 400 || one < 400 || better < 30 {
		t.Errorf("%d lists have several best rows, %d have one, %d have better ones than the tall ones", several, one, better)
	}
}

// TestBestRowsOfManyBlocks is for promise 12: it has eight and nine blocks.
func TestBestRowsOfManyBlocks(t *testing.T) {
	var n numbers
	for i := range int64(48) {
		roll := []int64{3, 20, 100, 5000}[i%4]
		checkBestRows(t, someBlocks(&n, i/2, 8+i%2, roll), roll)
	}
	for i := range int64(16) {
		checkBestRows(t, blocksOf(&n, 9, []int64{20, 30, 40, 60}[i%4], []int64{9, 5000}[i/4%2]), 60)
	}
}

// TestNoOtherRowsAreBetter is for promise 12: it looks at all rows of up to four blocks, also where rows without a block stand between others.
func TestNoOtherRowsAreBetter(t *testing.T) {
	var n numbers
	for i := range int64(100) {
		roll := manyRolls[i/5%8]
		list := someBlocks(&n, i/5, i%5, roll)
		best, _ := impl.BestRows(list, roll)
		least, code := impl.HeightOfRows(list, roll, best)
		same(t, "code", code, int64(impl.OK))
		eachRows(len(list), 9, func(rows []int64) {
			if faultOfRows(list, roll, rows) >= 0 {
				return
			}
			length := lengthOfRows(list, rows)
			if length < least || length == least && slices.Compare(rows, best) < 0 {
				t.Errorf("best rows %v for %v on %d have the length %d, %v have %d", best, list, roll, least, rows, length)
			}
		})
	}
}
