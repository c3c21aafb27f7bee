package tests

import (
	"fmt"
	"math/big"
	"slices"
	"testing"

	"loop.example/g01043/impl"
)

func TestLimitsOfLeather(t *testing.T) {
	same(t, "MaxGive", impl.MaxGive, 100)
	same(t, "MaxPull", impl.MaxPull, 1000)
	same(t, "MaxPulls", impl.MaxPulls, 20)
	same(t, "Across", impl.Across, 4)
}

// goodLeathers have numbers at the ends of all ranges.
func goodLeathers() []impl.Leather {
	return []impl.Leather{leather(2, 10, 500, 200), leather(0, 0, 0, 1), leather(100, 100, 1000, 500), leather(0, 100, 0, 500), leather(100, 0, 1000, 1), leather(1, 99, 999, 499), leather(99, 1, 1, 2), leather(10, 2, 0, 100)}
}

// noGives, noSets, noMosts, noDirections, noForces and noPieces are just beyond the ranges and far from them.
var (
	noGives      = append([]int64{-1, 101, -2, 102, -100, 1000}, farNumbers...)
	noSets       = append([]int64{-1, 1001, -2, 1002, -1000, 2000}, farNumbers...)
	noMosts      = append([]int64{0, 501, -1, 502, -500, 1000}, farNumbers...)
	noDirections = append([]int64{-1, 5, -2, 6, -4, 8}, farNumbers...)
	noForces     = append([]int64{-1, 1001, -2, 1002, -1000, 2000}, farNumbers...)
	noPieces     = append([]int64{0, 10001, -1, 10002, -10000, 20000}, farNumbers...)
)

// badLeathers have one number each that is out of its range, and all of them.
func badLeathers() []impl.Leather {
	all := []impl.Leather{{}, leather(2, 10, 500, 0), leather(-1, -1, -1, -1), leather(101, 101, 1001, 501)}
	for _, good := range goodLeathers()[:5] {
		for k, bad := range [][]int64{noGives, noGives, noSets, noMosts} {
			for _, x := range bad {
				l := good
				*numbersOfLeather(&l)[k] = x
				all = append(all, l)
			}
		}
	}
	return all
}

func TestValidLeather(t *testing.T) {
	for _, l := range goodLeathers() {
		same(t, fmt.Sprint("valid ", l), impl.ValidLeather(l), true)
	}
	for _, l := range badLeathers() {
		same(t, fmt.Sprint("valid ", l), impl.ValidLeather(l), false)
	}
	for x := int64(-2); x <= 1002; x++ {
		got := []any{impl.ValidLeather(leather(x, 0, 0, 1)), impl.ValidLeather(leather(0, x, 0, 1)), impl.ValidLeather(leather(0, 0, x, 1)), impl.ValidLeather(leather(0, 0, 0, x))}
		same(t, fmt.Sprint("valid with ", x), got, []any{0 <= x && x <= 100, 0 <= x && x <= 100, 0 <= x && x <= 1000, 1 <= x && x <= 500})
	}
}

// The following functions count exactly, in the way the document tells.

func giveOf(l impl.Leather, direction int64) *big.Rat {
	return big.NewRat(l.Along*(4-direction)+l.Across*direction, 4)
}

func stretchOf(l impl.Leather, direction, force int64) *big.Rat {
	return new(big.Rat).Mul(giveOf(l, direction), big.NewRat(force, 10))
}

func isTorn(l impl.Leather, direction, force int64) bool {
	return stretchOf(l, direction, force).Cmp(big.NewRat(l.Most, 1)) > 0
}

// grownBy returns a length that has grown by thousandths.
func grownBy(length int64, by *big.Rat) *big.Rat {
	all := new(big.Rat).Add(big.NewRat(1000, 1), by)
	return all.Mul(all, big.NewRat(length, 1000))
}

func lengthUnder(l impl.Leather, direction, length, force int64) *big.Rat {
	return grownBy(length, stretchOf(l, direction, force))
}

func lengthAfter(l impl.Leather, direction, length, force int64) int64 {
	kept := new(big.Rat).Mul(stretchOf(l, direction, force), big.NewRat(l.Set, 1000))
	return nearestOf(grownBy(length, kept))
}

// written returns the fraction that a function has to return.
func written(x *big.Rat) impl.Fraction { return fraction(x.Num().Int64(), x.Denom().Int64()) }

// checkPull checks all functions of one force.
func checkPull(t *testing.T, l impl.Leather, direction, length, force int64) {
	t.Helper()
	stretch, one := impl.StretchOf(l, direction, force)
	under, two := impl.LengthUnder(l, direction, length, force)
	after, three := impl.LengthAfter(l, direction, length, force)
	list, four := impl.RunPulls(l, direction, length, []int64{force})
	cut, five := impl.CutLength(l, direction, length, force)
	got := []any{stretch, one, under, two, after, three, list, four, cut, five}
	ok, tight := int64(impl.OK), int64(impl.ErrTight)
	name := fmt.Sprint("results of ", force, " in the direction ", direction, " on ", length, " of ", l)
	if isTorn(l, direction, force) {
		same(t, name, got, []any{impl.Fraction{}, tight, impl.Fraction{}, tight, int64(0), tight, []int64(nil), tight, int64(0), tight})
		return
	}
	kept := lengthAfter(l, direction, length, force)
	want := []any{written(stretchOf(l, direction, force)), ok, written(lengthUnder(l, direction, length, force)), ok, kept, ok, []int64{kept}, ok, int64(0), int64(impl.ErrNotFound)}
	if kept > 10000 {
		want[6], want[7] = []int64(nil), int64(impl.ErrFull)
	}
	wanted := new(big.Rat).Quo(big.NewRat(length, 1), lengthUnder(l, direction, 1, force))
	if longest := new(big.Int).Div(wanted.Num(), wanted.Denom()).Int64(); longest > 0 {
		want[8], want[9] = longest, ok
	}
	same(t, name, got, want)
}

// TestExampleOfStretch is the example of the chapter.
func TestExampleOfStretch(t *testing.T) {
	l := impl.Leather{Along: 2, Across: 10, Set: 500, Most: 200}
	stretch, one := impl.StretchOf(l, impl.Across, 100)
	under, two := impl.LengthUnder(l, impl.Across, 1000, 100)
	after, three := impl.LengthAfter(l, impl.Across, 1000, 100)
	same(t, "results", []any{stretch, one, under, two, after, three}, []any{fraction(100, 1), int64(impl.OK), fraction(1100, 1), int64(impl.OK), int64(1050), int64(impl.OK)})
}

func TestStretchOf(t *testing.T) {
	for _, x := range []struct {
		l                impl.Leather
		direction, force int64
		want             impl.Fraction
	}{
		{leather(2, 10, 500, 200), 4, 100, fraction(100, 1)}, {leather(2, 10, 500, 200), 3, 100, fraction(80, 1)}, {leather(2, 10, 500, 200), 2, 100, fraction(60, 1)}, {leather(2, 10, 500, 200), 1, 100, fraction(40, 1)}, {leather(2, 10, 500, 200), 0, 100, fraction(20, 1)}, {leather(10, 2, 500, 200), 0, 100, fraction(100, 1)}, {leather(10, 2, 500, 200), 1, 100, fraction(80, 1)},
		// Without a force, and without a give.
		{leather(2, 10, 500, 200), 4, 0, fraction(0, 1)}, {leather(100, 100, 1000, 1), 2, 0, fraction(0, 1)}, {leather(0, 0, 0, 1), 0, 1000, fraction(0, 1)}, {leather(0, 0, 0, 1), 4, 1000, fraction(0, 1)}, {leather(0, 100, 0, 1), 0, 1000, fraction(0, 1)}, {leather(100, 0, 0, 1), 4, 1000, fraction(0, 1)},
		// In lowest terms.
		{leather(1, 0, 0, 500), 0, 1, fraction(1, 10)}, {leather(1, 0, 0, 500), 1, 1, fraction(3, 40)}, {leather(1, 0, 0, 500), 2, 1, fraction(1, 20)}, {leather(1, 0, 0, 500), 3, 1, fraction(1, 40)}, {leather(1, 0, 0, 500), 3, 40, fraction(1, 1)}, {leather(1, 0, 0, 500), 3, 39, fraction(39, 40)}, {leather(1, 0, 0, 500), 3, 41, fraction(41, 40)}, {leather(3, 7, 0, 500), 1, 11, fraction(22, 5)}, {leather(3, 8, 0, 500), 1, 11, fraction(187, 40)}, {leather(3, 8, 0, 500), 2, 15, fraction(33, 4)}, {leather(3, 8, 0, 500), 3, 6, fraction(81, 20)},
		// As much as the leather bears, which need not be reached by a whole force.
		{leather(2, 10, 500, 200), 4, 200, fraction(200, 1)}, {leather(2, 10, 500, 200), 0, 1000, fraction(200, 1)}, {leather(5, 5, 0, 500), 3, 1000, fraction(500, 1)}, {leather(100, 100, 0, 500), 0, 50, fraction(500, 1)}, {leather(100, 100, 0, 1), 1, 0, fraction(0, 1)}, {leather(10, 10, 0, 1), 1, 1, fraction(1, 1)}, {leather(9, 9, 0, 1), 1, 1, fraction(9, 10)}, {leather(1, 0, 0, 1), 1, 13, fraction(39, 40)}, {leather(1, 0, 0, 1), 3, 40, fraction(1, 1)}, {leather(7, 7, 0, 100), 0, 142, fraction(497, 5)},
	} {
		got, code := impl.StretchOf(x.l, x.direction, x.force)
		same(t, fmt.Sprint("stretch of ", x.l, " in the direction ", x.direction, " under ", x.force), []any{got, code}, []any{x.want, int64(impl.OK)})
		checkPull(t, x.l, x.direction, 1000, x.force)
	}
	// Just more than the leather bears.
	for _, x := range []struct {
		l                impl.Leather
		direction, force int64
	}{
		{leather(2, 10, 500, 200), 4, 201}, {leather(2, 10, 500, 199), 0, 1000}, {leather(2, 10, 500, 200), 4, 1000}, {leather(100, 100, 0, 500), 0, 51}, {leather(100, 100, 0, 500), 4, 1000}, {leather(100, 100, 0, 1), 1, 1}, {leather(11, 11, 0, 1), 1, 1}, {leather(10, 11, 0, 1), 1, 1}, {leather(11, 10, 0, 1), 3, 1}, {leather(1, 0, 0, 1), 1, 14}, {leather(1, 0, 0, 1), 3, 41}, {leather(7, 7, 0, 100), 0, 143},
	} {
		checkPull(t, x.l, x.direction, 1000, x.force)
		_, code := impl.StretchOf(x.l, x.direction, x.force)
		same(t, fmt.Sprint("code of ", x), code, int64(impl.ErrTight))
	}
}

func TestLengthsUnderForces(t *testing.T) {
	for _, x := range []struct {
		l                        impl.Leather
		direction, length, force int64
		under                    impl.Fraction
		after                    int64
	}{
		{leather(2, 10, 500, 200), 4, 1000, 100, fraction(1100, 1), 1050}, {leather(2, 10, 500, 200), 0, 1000, 100, fraction(1020, 1), 1010}, {leather(2, 10, 500, 200), 4, 1, 100, fraction(11, 10), 1}, {leather(2, 10, 500, 200), 4, 10000, 100, fraction(11000, 1), 10500}, {leather(2, 10, 500, 200), 4, 10000, 200, fraction(12000, 1), 11000}, {leather(2, 10, 500, 200), 4, 1000, 0, fraction(1000, 1), 1000}, {leather(2, 10, 500, 200), 4, 10000, 0, fraction(10000, 1), 10000}, {leather(2, 10, 500, 200), 4, 1, 0, fraction(1, 1), 1},
		// All of the stretch remains, or nothing.
		{leather(2, 10, 1000, 200), 4, 1000, 100, fraction(1100, 1), 1100}, {leather(2, 10, 0, 200), 4, 1000, 100, fraction(1100, 1), 1000}, {leather(2, 10, 1, 200), 4, 10000, 100, fraction(11000, 1), 10001}, {leather(2, 10, 999, 200), 4, 10000, 100, fraction(11000, 1), 10999}, {leather(100, 100, 1000, 500), 1, 10000, 50, fraction(15000, 1), 15000}, {leather(100, 100, 0, 500), 1, 10000, 50, fraction(15000, 1), 10000}, {leather(0, 0, 1000, 1), 3, 10000, 1000, fraction(10000, 1), 10000},
		// Halfway between two whole numbers, and just before and behind.
		{leather(5, 5, 1000, 500), 0, 1, 1000, fraction(3, 2), 2}, {leather(5, 5, 1000, 500), 0, 1, 999, fraction(2999, 2000), 1}, {leather(5, 5, 1000, 500), 0, 3, 1000, fraction(9, 2), 5}, {leather(5, 5, 999, 500), 0, 3, 1000, fraction(9, 2), 4}, {leather(2, 10, 500, 200), 4, 10, 100, fraction(11, 1), 11}, {leather(2, 10, 499, 200), 4, 10, 100, fraction(11, 1), 10}, {leather(2, 10, 500, 200), 4, 30, 100, fraction(33, 1), 32}, {leather(2, 10, 500, 200), 4, 29, 100, fraction(319, 10), 30}, {leather(2, 10, 500, 200), 4, 31, 100, fraction(341, 10), 33}, {leather(2, 10, 500, 200), 4, 50, 100, fraction(55, 1), 53}, {leather(1, 0, 1000, 500), 3, 1, 1000, fraction(41, 40), 1}, {leather(1, 0, 1000, 500), 3, 20, 1000, fraction(41, 2), 21}, {leather(1, 0, 1000, 500), 3, 19, 1000, fraction(779, 40), 19}, {leather(1, 1, 500, 500), 0, 10000, 1, fraction(10001, 1), 10001}, {leather(1, 1, 499, 500), 0, 10000, 1, fraction(10001, 1), 10000}, {leather(1, 1, 500, 500), 0, 9999, 1, fraction(99999999, 10000), 9999},
		// In lowest terms, with the greatest denominator there is.
		{leather(1, 0, 0, 500), 3, 1, 1, fraction(40001, 40000), 1}, {leather(1, 0, 0, 500), 1, 1, 1, fraction(40003, 40000), 1}, {leather(1, 0, 0, 500), 1, 7, 3, fraction(280063, 40000), 7}, {leather(1, 0, 0, 500), 3, 10000, 1, fraction(40001, 4), 10000}, {leather(3, 8, 333, 500), 1, 9999, 1000, fraction(569943, 40), 11414}, {leather(99, 98, 1000, 500), 1, 9999, 50, fraction(2389761, 160), 14936},
	} {
		name := fmt.Sprint(x.length, " of ", x.l, " in the direction ", x.direction, " under ", x.force)
		under, code := impl.LengthUnder(x.l, x.direction, x.length, x.force)
		want := written(big.NewRat(x.under.Num, x.under.Den))
		same(t, "length of "+name, []any{under, code}, []any{want, int64(impl.OK)})
		after, code := impl.LengthAfter(x.l, x.direction, x.length, x.force)
		same(t, "length after "+name, []any{after, code}, []any{x.after, int64(impl.OK)})
		checkPull(t, x.l, x.direction, x.length, x.force)
	}
}

// TestLengthsGrowByTheStretch is for promise 13: lengths under forces are those that the stretch tells, and no greater force makes them shorter.
func TestLengthsGrowByTheStretch(t *testing.T) {
	var n numbers
	var torn, whole int
	for i := range int64(3000) {
		l := leatherOf(&n, []int64{1, 5, 20, 100}[i%4])
		if i%8 == 0 {
			l.Set = []int64{0, 500, 1000}[i/8%3]
		}
		direction, length, force := n.from(0, 4), n.from(1, []int64{20, 10000}[i/4%2]), n.from(0, 1000)
		checkPull(t, l, direction, length, force)
		stretch, code := impl.StretchOf(l, direction, force)
		if code == impl.ErrTight {
			torn++
			continue
		}
		under, _ := impl.LengthUnder(l, direction, length, force)
		if under.Den == 1 {
			whole++
		}
		grown := big.NewRat(under.Num, under.Den)
		same(t, "growth", grown.Cmp(grownBy(length, big.NewRat(stretch.Num, stretch.Den))), 0)
		after, _ := impl.LengthAfter(l, direction, length, force)
		if after < length || big.NewRat(after, 1).Cmp(new(big.Rat).Add(grown, big.NewRat(1, 2))) > 0 {
			t.Errorf("%d of %v keeps %d, and has %v under %d", length, l, after, under, force)
		}
		if force > 0 {
			less, code := impl.LengthUnder(l, direction, length, force-1)
			same(t, "code", code, int64(impl.OK))
			if big.NewRat(less.Num, less.Den).Cmp(grown) > 0 {
				t.Errorf("%d of %v is longer under %d than under %d", length, l, force-1, force)
			}
		}
	}
	if torn < 300 || whole < 100 {
		t.Errorf("%d forces tear, %d lengths are whole", torn, whole)
	}
}

func TestRunPulls(t *testing.T) {
	slight := leather(1, 1, 1000, 500)
	for _, x := range []struct {
		l                 impl.Leather
		direction, length int64
		forces, want      []int64
		code              int64
	}{
		{leather(2, 10, 500, 200), 4, 1000, []int64{100, 100}, []int64{1050, 1103}, impl.OK}, {leather(2, 10, 500, 200), 4, 1000, []int64{100}, []int64{1050}, impl.OK}, {leather(2, 10, 500, 200), 4, 1000, nil, nil, impl.OK}, {leather(2, 10, 500, 200), 4, 10000, []int64{}, nil, impl.OK}, {leather(2, 10, 500, 200), 4, 1, nil, nil, impl.OK},
		{leather(2, 10, 500, 200), 4, 1000, []int64{0, 100, 0, 200, 0}, []int64{1000, 1050, 1050, 1155, 1155}, impl.OK}, {leather(2, 10, 500, 200), 0, 1000, []int64{100, 1000, 100}, []int64{1010, 1111, 1122}, impl.OK}, {leather(2, 10, 0, 200), 4, 1000, []int64{200, 200, 200}, []int64{1000, 1000, 1000}, impl.OK}, {leather(2, 10, 1000, 200), 4, 1000, []int64{200, 100, 200}, []int64{1200, 1320, 1584}, impl.OK},
		// Each length is rounded before the next force: it may never grow, or each time.
		{leather(2, 10, 500, 200), 4, 1, []int64{200, 200, 200}, []int64{1, 1, 1}, impl.OK}, {leather(5, 5, 1000, 500), 0, 1, []int64{1000, 1000, 1000, 1000}, []int64{2, 3, 5, 8}, impl.OK}, {leather(5, 5, 1000, 500), 0, 1, []int64{999, 1000, 999, 999}, []int64{1, 2, 3, 4}, impl.OK}, {leather(2, 10, 500, 200), 4, 10, []int64{99, 100, 100}, []int64{10, 11, 12}, impl.OK},
		// As many forces as there may be.
		{leather(2, 10, 500, 200), 4, 10000, repeated(0, 20), repeated(10000, 20), impl.OK}, {leather(100, 100, 0, 500), 2, 7, repeated(50, 20), repeated(7, 20), impl.OK}, {leather(5, 5, 1000, 500), 1, 1, []int64{1000, 1000, 1000, 1000, 1000, 1000, 1000, 1000, 1000, 1000, 1000, 1000, 1000, 1000, 1000, 1000, 1000, 1000, 1000, 0}, []int64{2, 3, 5, 8, 12, 18, 27, 41, 62, 93, 140, 210, 315, 473, 710, 1065, 1598, 2397, 3596, 3596}, impl.OK},
		// A length of 10000, and one that is greater.
		{slight, 0, 9999, []int64{1}, []int64{10000}, impl.OK}, {slight, 0, 10000, []int64{1}, nil, impl.ErrFull}, {slight, 0, 9999, []int64{1, 1}, nil, impl.ErrFull}, {slight, 0, 9998, []int64{1, 1}, []int64{9999, 10000}, impl.OK}, {slight, 0, 9998, []int64{1, 1, 0}, []int64{9999, 10000, 10000}, impl.OK}, {slight, 0, 9998, []int64{1, 1, 0, 1, 0}, nil, impl.ErrFull}, {slight, 0, 9998, []int64{3}, nil, impl.ErrFull}, {slight, 0, 9998, []int64{2}, []int64{10000}, impl.OK}, {leather(100, 100, 1000, 500), 0, 6667, []int64{50}, nil, impl.ErrFull}, {leather(100, 100, 1000, 500), 0, 6666, []int64{50}, []int64{9999}, impl.OK}, {leather(100, 100, 1000, 500), 0, 10000, repeated(50, 20), nil, impl.ErrFull}, {slight, 0, 10000, []int64{0, 0, 0, 0, 1}, nil, impl.ErrFull}, {leather(1, 1, 0, 500), 0, 10000, []int64{1000}, []int64{10000}, impl.OK}, {leather(1, 1, 1, 500), 0, 10000, []int64{500, 499}, nil, impl.ErrFull}, {leather(1, 1, 1, 500), 0, 10000, []int64{499, 499}, []int64{10000, 10000}, impl.OK},
		// A force under which the leather tears, wherever it is, also behind a length that is too great.
		{leather(2, 10, 500, 200), 4, 1000, []int64{200}, []int64{1100}, impl.OK}, {leather(2, 10, 500, 200), 4, 1000, []int64{201}, nil, impl.ErrTight}, {leather(2, 10, 500, 200), 4, 1000, []int64{201, 0, 0}, nil, impl.ErrTight}, {leather(2, 10, 500, 200), 4, 1000, []int64{0, 201, 0}, nil, impl.ErrTight}, {leather(2, 10, 500, 200), 4, 1000, []int64{0, 0, 201}, nil, impl.ErrTight}, {leather(2, 10, 500, 200), 4, 10000, []int64{200, 201}, nil, impl.ErrTight}, {leather(2, 10, 500, 200), 4, 10000, []int64{201, 200}, nil, impl.ErrTight}, {leather(2, 10, 500, 200), 4, 10000, []int64{200, 200}, nil, impl.ErrFull}, {leather(2, 10, 500, 200), 4, 10000, append(repeated(200, 19), 1000), nil, impl.ErrTight}, {leather(2, 10, 500, 200), 4, 1, append(repeated(0, 19), 201), nil, impl.ErrTight}, {leather(2, 10, 500, 200), 3, 1000, []int64{201, 250}, []int64{1080, 1188}, impl.OK}, {leather(2, 10, 500, 200), 3, 1000, []int64{201, 251}, nil, impl.ErrTight},
	} {
		got, code := impl.RunPulls(x.l, x.direction, x.length, x.forces)
		same(t, fmt.Sprint("lengths of ", x.length, " of ", x.l, " in the direction ", x.direction, " after ", x.forces), []any{got, code}, []any{x.want, x.code})
	}
}

// TestManyPulls takes one force after the other.
func TestManyPulls(t *testing.T) {
	var n numbers
	found := map[int64]int{}
	for i := range int64(3000) {
		l, direction, length := leatherOf(&n, []int64{3, 20}[i/21%2]), n.from(0, 4), n.from(1, []int64{30, 3000, 10000}[i/42%3])
		most, _ := impl.GreatestPull(l, direction)
		if i%8 == 0 {
			most = min(1000, most+50)
		}
		if i%5 == 0 {
			most /= 10
		}
		forces := lengthsOf(&n, i%21, 0, most)
		var want []int64
		code, now := int64(impl.OK), length
		for _, force := range forces {
			now = lengthAfter(l, direction, now, force)
			want = append(want, now)
			if now > 10000 {
				want, code = nil, impl.ErrFull
				break
			}
		}
		if slices.ContainsFunc(forces, func(force int64) bool { return isTorn(l, direction, force) }) {
			want, code = nil, impl.ErrTight
		}
		found[code]++
		got, gotten := impl.RunPulls(l, direction, length, forces)
		same(t, fmt.Sprint("lengths of ", length, " of ", l, " in the direction ", direction, " after ", forces), []any{got, gotten}, []any{want, code})
	}
	if found[impl.OK] < 300 || found[impl.ErrTight] < 100 || found[impl.ErrFull] < 100 {
		t.Errorf("so many codes: %v", found)
	}
}

// badForces are forces with one thing each that is not as they may be.
func badForces() [][]int64 {
	all := [][]int64{repeated(0, 21), repeated(0, 22), repeated(1000, 21), repeated(0, 1000)}
	for _, force := range noForces {
		all = append(all, []int64{force}, []int64{force, 0}, []int64{0, force}, []int64{0, force, 1000}, append(repeated(0, 19), force), repeated(force, 20))
	}
	return all
}

// checkStretchCodes calls all functions of a direction with arguments for which they return a code.
func checkStretchCodes(t *testing.T, l impl.Leather, direction, length, force int64, forces []int64, code int64) {
	t.Helper()
	stretch, one := impl.StretchOf(l, direction, force)
	under, two := impl.LengthUnder(l, direction, length, force)
	after, three := impl.LengthAfter(l, direction, length, force)
	list, four := impl.RunPulls(l, direction, length, forces)
	cut, five := impl.CutLength(l, direction, length, force)
	pull, six := impl.PullFor(l, direction, length, 1000)
	other, seven := impl.PullFor(l, direction, 1000, length)
	most, eight := impl.GreatestPull(l, direction)
	same(t, fmt.Sprintf("results of %v, %d, %d, %d, %.200v", l, direction, length, force, forces), []any{stretch, one, under, two, after, three, list, four, cut, five, pull, six, other, seven, most, eight}, []any{impl.Fraction{}, code, impl.Fraction{}, code, int64(0), code, []int64(nil), code, int64(0), code, int64(0), code, int64(0), code, int64(0), code})
}

// TestErrorsOfStretch has each argument alone and together with others that are wrong, too: a leather that is not valid is found before a number that is out of its range, and this before a leather that tears.
func TestErrorsOfStretch(t *testing.T) {
	invalid, outside := int64(impl.ErrInvalid), int64(impl.ErrRange)
	forces := badForces()
	for i, l := range badLeathers() {
		direction, length, force := noDirections[i%len(noDirections)], noPieces[i%len(noPieces)], noForces[i%len(noForces)]
		checkStretchCodes(t, l, 4, 1000, 100, []int64{100}, invalid)
		checkStretchCodes(t, l, direction, 1000, 100, nil, invalid)
		checkStretchCodes(t, l, 0, length, 1000, []int64{1000, 1000}, invalid)
		checkStretchCodes(t, l, 4, 1000, force, forces[i%len(forces)], invalid)
		checkStretchCodes(t, l, direction, length, force, repeated(force, 21), invalid)
	}
	for i, l := range goodLeathers() {
		for k, direction := range noDirections {
			checkStretchCodes(t, l, direction, 1000, 0, nil, outside)
			checkStretchCodes(t, l, direction, 10000, 1000, repeated(1000, 20), outside)
			checkStretchCodes(t, l, direction, noPieces[k], noForces[k], forces[k], outside)
		}
		for _, list := range forces {
			got, code := impl.RunPulls(l, int64(i)%5, 1000, list)
			same(t, fmt.Sprintf("lengths after %.200v", list), []any{got, code}, []any{[]int64(nil), outside})
		}
		for _, force := range noForces {
			checkForceCodes(t, l, 4, 1000, force, outside)
		}
		for _, length := range noPieces {
			checkForceCodes(t, l, 0, length, 0, outside)
			checkForceCodes(t, l, 4, length, 1000, outside)
			checkForceCodes(t, l, 4, length, -1, outside)
			got, one := impl.RunPulls(l, 2, length, nil)
			pull, two := impl.PullFor(l, 2, length, 10000)
			other, three := impl.PullFor(l, 2, 1, length)
			both, four := impl.PullFor(l, 2, length, length)
			same(t, fmt.Sprint("results of ", length), []any{got, one, pull, two, other, three, both, four}, []any{[]int64(nil), outside, int64(0), outside, int64(0), outside, int64(0), outside})
		}
	}
}

// checkForceCodes calls all functions of one force with arguments for which they return a code; StretchOf has no length.
func checkForceCodes(t *testing.T, l impl.Leather, direction, length, force, code int64) {
	t.Helper()
	under, one := impl.LengthUnder(l, direction, length, force)
	after, two := impl.LengthAfter(l, direction, length, force)
	cut, three := impl.CutLength(l, direction, length, force)
	same(t, fmt.Sprint("results of ", l, " in the direction ", direction, " for ", length, " under ", force), []any{under, one, after, two, cut, three}, []any{impl.Fraction{}, code, int64(0), code, int64(0), code})
	if force < 0 || force > 1000 {
		stretch, code := impl.StretchOf(l, direction, force)
		same(t, "stretch", []any{stretch, code}, []any{impl.Fraction{}, int64(impl.ErrRange)})
	}
}
