package tests

import (
	"fmt"
	"math"
	"math/big"
	"slices"
	"strings"
	"testing"

	"loop.example/g01043/impl"
)

func TestLimitsOfNesting(t *testing.T) {
	same(t, "MaxRows", impl.MaxRows, 9)
	same(t, "MaxRoll", impl.MaxRoll, 5000)
	same(t, "MaxHeight", impl.MaxHeight, 5000)
}

// farNumbers are far from all ranges, some of them in a range if only their last bits count.
var farNumbers = []int64{1 << 32, 1<<32 + 1, -1 << 32, math.MinInt64, math.MinInt64 + 1, math.MaxInt64 - 1, math.MaxInt64}

// nested is a list of blocks and the roll for which it is valid or not.
type nested struct {
	list []impl.Block
	roll int64
}

// goodNests are valid: no blocks and up to as many as are allowed, numbers at the ends of all ranges, on the narrowest and the widest roll.
func goodNests() []nested {
	all := []nested{{nil, 1}, {[]impl.Block{}, 1}, {nil, 5000}, {nil, 60}, {blocks("30x10 30x8 40x9"), 60}, {blocks("30x10 30x8 40x9"), 40}, {blocks("1x1"), 1}, {blocks("1x5000"), 1}, {blocks("1x1"), 5000}, {blocks("5000x5000"), 5000}, {blocks("5000x1"), 5000}, {blocks("1x5000"), 5000}, {blocks("60x1 60x5000 1x1"), 60}, {blocks("4999x4999 4999x5000"), 4999}}
	for count := 1; count <= 9; count++ {
		all = append(all, nested{slices.Repeat(blocks("1x1"), count), 1}, nested{slices.Repeat(blocks("5000x5000"), count), 5000}, nested{slices.Repeat(blocks("20x7"), count), 60}, nested{slices.Repeat(blocks("60x60"), count), 60})
	}
	return all
}

// badNests have one thing each that is not valid.
func badNests() []nested {
	var all []nested
	for _, roll := range append([]int64{0, 5001, -1, 5002, -60, -5000, 10000}, farNumbers...) {
		all = append(all, nested{nil, roll}, nested{[]impl.Block{}, roll}, nested{blocks("1x1"), roll}, nested{blocks("30x10 30x8 40x9"), roll})
	}
	for _, good := range goodNests() {
		for _, count := range []int{10, 11, 18, 256, 1000} {
			if len(good.list) == 1 {
				all = append(all, nested{slices.Repeat(good.list, count), good.roll})
			}
		}
	}
	for _, roll := range []int64{1, 60, 4999, 5000} {
		a, b := block(1, 1), block(roll, 5000)
		for _, width := range append([]int64{0, roll + 1, -1, roll + 2, -roll, 2*roll + 5000}, farNumbers...) {
			bad := block(width, 1)
			all = append(all, nested{[]impl.Block{bad}, roll}, nested{[]impl.Block{bad, a}, roll}, nested{[]impl.Block{a, bad}, roll}, nested{[]impl.Block{a, bad, b}, roll}, nested{append(slices.Repeat([]impl.Block{b}, 8), bad), roll}, nested{[]impl.Block{block(width, 5000)}, roll})
		}
		for _, height := range append([]int64{0, 5001, -1, 5002, -5000, 10000}, farNumbers...) {
			bad := block(1, height)
			all = append(all, nested{[]impl.Block{bad}, roll}, nested{[]impl.Block{bad, a}, roll}, nested{[]impl.Block{a, bad}, roll}, nested{[]impl.Block{a, bad, b}, roll}, nested{append(slices.Repeat([]impl.Block{b}, 8), bad), roll}, nested{[]impl.Block{block(roll, height)}, roll})
		}
	}
	return append(all, nested{[]impl.Block{{}}, 60}, nested{make([]impl.Block, 9), 5000}, nested{blocks("30x10 30x8 40x9"), 39}, nested{blocks("30x10 30x8 40x9"), 1})
}

func TestValidBlocks(t *testing.T) {
	for _, x := range goodNests() {
		same(t, fmt.Sprint("valid ", x), impl.ValidBlocks(x.list, x.roll), true)
	}
	for _, x := range badNests() {
		same(t, fmt.Sprintf("valid %.200v", x), impl.ValidBlocks(x.list, x.roll), false)
	}
	for roll := int64(-1); roll <= 12; roll++ {
		for width := int64(-1); width <= 13; width++ {
			valid := 1 <= width && width <= roll
			same(t, fmt.Sprint("valid ", width, " on ", roll), []any{impl.ValidBlocks([]impl.Block{block(width, 5000)}, roll), impl.ValidBlocks([]impl.Block{block(1, 1), block(width, 1)}, roll)}, []any{valid, valid})
		}
	}
}

func TestSameBlocks(t *testing.T) {
	lists := [][]impl.Block{nil, blocks("1x1"), blocks("1x2"), blocks("2x1"), blocks("2x2"), blocks("1x1 1x1"), blocks("1x1 2x1"), blocks("2x1 1x1"), blocks("1x2 1x1"), blocks("30x10 30x8 40x9"), blocks("30x10 40x9 30x8"), blocks("30x10 30x8"), blocks("30x10 30x8 40x9 1x1"), blocks("0x0"), blocks("0x1"), blocks("-1x0"), blocks("9223372036854775807x-9223372036854775808"), slices.Repeat(blocks("1x1"), 9), slices.Repeat(blocks("1x1"), 10), make([]impl.Block, 1000)}
	for i, a := range lists {
		for k, b := range lists {
			same(t, fmt.Sprint("same ", a, " and ", b), impl.SameBlocks(a, slices.Clone(b)), i == k)
		}
	}
	same(t, "no blocks", []any{impl.SameBlocks(nil, []impl.Block{}), impl.SameBlocks([]impl.Block{}, nil), impl.SameBlocks([]impl.Block{}, make([]impl.Block, 0, 9))}, []any{true, true, true})
}

func TestHeightBound(t *testing.T) {
	for _, x := range []struct {
		list       string
		roll, want int64
	}{
		{"30x10 30x8 40x9", 60, 15}, {"", 60, 0}, {"", 1, 0}, {"", 5000, 0}, {"1x1", 1, 1}, {"1x1", 5000, 1}, {"5000x5000", 5000, 5000}, {"1x5000", 5000, 5000}, {"60x7", 60, 7},
		// The greatest Height, wherever it is, or the area if this is greater.
		{"10x50 10x1", 60, 50}, {"10x1 10x50", 60, 50}, {"10x1 10x50 10x3", 60, 50}, {"30x10 30x10", 60, 10}, {"30x10 31x10", 60, 11}, {"20x10 20x9 20x8", 60, 10}, {"60x10 60x9", 60, 19}, {"60x9 60x10", 60, 19}, {"40x9 40x10", 60, 13}, {"40x10 40x10", 60, 14}, {"45x10 45x10", 60, 15}, {"6x10 54x10 1x1", 60, 11}, {"6x10 54x10", 60, 10}, {"6x10 53x10 1x10", 60, 10}, {"6x10 53x10 1x9 1x1", 60, 10}, {"6x10 53x10 1x9 1x2", 60, 11},
		// Rounded up, from just more than a whole number and from just less than the next one.
		{"2x3 1x1", 3, 3}, {"2x3 1x4", 3, 4}, {"2x2 2x2 1x1", 3, 3}, {"2x2 2x2 1x2", 3, 4}, {"2x2 2x2 2x2", 3, 4}, {"2x2 2x2 1x1 1x1", 3, 4}, {"2x2 2x2 1x1 1x1 1x1", 3, 4}, {"4999x1 2x1", 5000, 2}, {"4999x1 1x1", 5000, 1}, {"4999x1 4999x1", 5000, 2}, {"1x1 1x1 1x1", 1, 3},
		{strings.Repeat("5000x5000 ", 9), 5000, 45000}, {strings.Repeat("5000x5000 ", 8) + "1x1", 5000, 40001}, {strings.Repeat("1x5000 ", 9), 1, 45000}, {strings.Repeat("1x5000 ", 9), 5000, 5000},
	} {
		got, code := impl.HeightBound(blocks(x.list), x.roll)
		same(t, fmt.Sprint("bound of ", x.list, " on ", x.roll), []any{got, code}, []any{x.want, int64(impl.OK)})
	}
}

// TestBoundsOfManyBlocks compares bounds with exact quotients.
func TestBoundsOfManyBlocks(t *testing.T) {
	var n numbers
	var tall, round, whole int
	for i := range int64(5000) {
		roll := []int64{1, 2, 7, 60, 5000}[i/10%5]
		list := blocksOf(&n, i%10, roll, []int64{2, 10, 100, 5000}[i/50%4])
		want := big.NewRat(areaOf(list), roll)
		if want.IsInt() {
			whole++
		} else {
			round++
			want.SetInt64(new(big.Int).Div(want.Num(), want.Denom()).Int64() + 1)
		}
		for _, b := range list {
			if height := big.NewRat(b.Height, 1); height.Cmp(want) > 0 {
				want = height
				tall++
			}
		}
		got, code := impl.HeightBound(list, roll)
		same(t, fmt.Sprint("bound of ", list, " on ", roll), []any{got, code}, []any{want.Num().Int64(), int64(impl.OK)})
	}
	if tall < 300 || round < 300 || whole < 300 {
		t.Errorf("%d Heights are greater than those before, %d areas are rounded, %d are not", tall, round, whole)
	}
}

func TestTurnBlocks(t *testing.T) {
	for _, x := range []struct {
		list string
		roll int64
		want string
	}{
		{"5x50 5x70", 60, "50x5 5x70"}, {"", 60, ""}, {"", 1, ""}, {"1x1", 1, "1x1"}, {"1x2", 1, "1x2"}, {"1x2", 2, "2x1"}, {"2x1", 2, "2x1"}, {"1x5000", 1, "1x5000"}, {"1x5000", 5000, "5000x1"}, {"1x5000", 4999, "1x5000"}, {"5000x1", 5000, "5000x1"}, {"5000x5000", 5000, "5000x5000"}, {"4999x5000", 5000, "5000x4999"}, {"4999x5000", 4999, "4999x5000"},
		// As wide as high, and one more or less.
		{"30x30", 60, "30x30"}, {"30x31", 60, "31x30"}, {"31x30", 60, "31x30"}, {"30x29", 60, "30x29"}, {"60x60", 60, "60x60"}, {"60x61", 60, "60x61"}, {"60x59", 60, "60x59"},
		// A Height that is the width of the roll, one less and one more.
		{"5x60", 60, "60x5"}, {"5x59", 60, "59x5"}, {"5x61", 60, "5x61"}, {"59x60", 60, "60x59"}, {"59x61", 60, "59x61"}, {"1x60 1x61 1x59 60x1 60x60 60x61", 60, "60x1 1x61 59x1 60x1 60x60 60x61"},
		// All blocks stay in their order, also equal ones.
		{"1x2 1x2 2x1 1x2", 2, "2x1 2x1 2x1 2x1"}, {"3x1 1x3 2x2 2x3 3x2 1x4 4x1 1x5", 4, "3x1 3x1 2x2 3x2 3x2 4x1 4x1 1x5"}, {strings.Repeat("5x50 ", 9), 50, strings.Repeat("50x5 ", 9)}, {strings.Repeat("5x50 ", 9), 49, strings.Repeat("5x50 ", 9)},
	} {
		got, code := impl.TurnBlocks(blocks(x.list), x.roll)
		same(t, fmt.Sprint("turned ", x.list, " on ", x.roll), []any{got, code}, []any{blocks(x.want), int64(impl.OK)})
	}
}

// TestTurnedBlocksAreTheShortest looks at both ways in which each block can lie on the roll.
func TestTurnedBlocksAreTheShortest(t *testing.T) {
	var n numbers
	turned := 0
	for i := range int64(3000) {
		roll := []int64{3, 10, 100, 5000}[i/10%4]
		list := blocksOf(&n, i%10, roll, 1+n.from(0, min(2*roll, 4999)))
		var want []impl.Block
		for _, b := range list {
			if over := block(b.Height, b.Width); impl.ValidBlocks([]impl.Block{over}, roll) && over.Height < b.Height {
				b = over
				turned++
			}
			want = append(want, b)
		}
		got, code := impl.TurnBlocks(list, roll)
		same(t, fmt.Sprint("turned ", list, " on ", roll), []any{got, code}, []any{want, int64(impl.OK)})
		again, code := impl.TurnBlocks(got, roll)
		same(t, "turned once more", []any{again, code}, []any{want, int64(impl.OK)})
	}
	if turned < 1000 {
		t.Errorf("only %d blocks are turned", turned)
	}
}

func TestBlocksText(t *testing.T) {
	for _, x := range []struct {
		list string
		roll int64
		want string
	}{
		{"30x10 30x8 40x9", 60, "60: 30x10 30x8 40x9"}, {"30x10 30x8 40x9", 5000, "5000: 30x10 30x8 40x9"}, {"", 60, "60:"}, {"", 1, "1:"}, {"", 5000, "5000:"}, {"1x1", 1, "1: 1x1"}, {"1x5000", 1, "1: 1x5000"}, {"5000x5000", 5000, "5000: 5000x5000"}, {"5000x1 1x5000", 5000, "5000: 5000x1 1x5000"}, {"10x20 20x10", 100, "100: 10x20 20x10"}, {strings.Repeat("1x2 ", 9), 3, "3:" + strings.Repeat(" 1x2", 9)},
	} {
		same(t, "text", impl.BlocksText(blocks(x.list), x.roll), x.want)
	}
	var n numbers
	for i := range int64(1000) {
		list, want := blocksOf(&n, i%10, 1000, 5000), fmt.Sprintf("%d:", 1000+i)
		for _, b := range list {
			want += fmt.Sprintf(" %dx%d", b.Width, b.Height)
		}
		same(t, "text", impl.BlocksText(list, 1000+i), want)
	}
	same(t, "text of no blocks", impl.BlocksText([]impl.Block{}, 7), "7:")
	for _, x := range badNests() {
		same(t, fmt.Sprintf("text of %.200v", x), impl.BlocksText(x.list, x.roll), "")
	}
}

// TestErrorsOfBlocks calls all functions that need no rows with blocks that are not valid.
func TestErrorsOfBlocks(t *testing.T) {
	invalid := int64(impl.ErrInvalid)
	for _, x := range badNests() {
		first, one := impl.FirstRows(x.list, x.roll)
		tall, two := impl.TallRows(x.list, x.roll)
		best, three := impl.BestRows(x.list, x.roll)
		least, four := impl.LeastHeight(x.list, x.roll)
		bound, five := impl.HeightBound(x.list, x.roll)
		turned, six := impl.TurnBlocks(x.list, x.roll)
		none := []int64(nil)
		same(t, fmt.Sprintf("results of %.200v", x), []any{first, one, tall, two, best, three, least, four, bound, five, turned, six}, []any{none, invalid, none, invalid, none, invalid, int64(0), invalid, int64(0), invalid, []impl.Block(nil), invalid})
	}
}
