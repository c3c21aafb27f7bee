package tests

import (
	"fmt"
	"math"
	"math/big"
	"slices"
	"testing"

	"loop.example/g01043/impl"
)

// tenths are as many shares as there may be.
var tenths = []int64{1, 100, 200, 300, 400, 500, 600, 700, 800, 999}

func TestNotchesOf(t *testing.T) {
	for _, x := range []struct {
		length int64
		shares []int64
		want   []int64
	}{
		{410, []int64{250, 500}, []int64{103, 205}}, {400, []int64{250, 500}, []int64{100, 200}}, {400, nil, nil}, {1, []int64{}, nil}, {5000, nil, nil},
		{1, []int64{1, 499, 500, 501, 999}, []int64{0, 0, 1, 1, 1}}, {5000, []int64{1, 2, 499, 500, 998, 999}, []int64{5, 10, 2495, 2500, 4990, 4995}}, {1000, []int64{1, 2, 500, 999}, []int64{1, 2, 500, 999}}, {4999, []int64{1, 500, 999}, []int64{5, 2500, 4994}},
		// Halves go up, and what is less does not.
		{2, []int64{249, 250, 251, 749, 750, 751}, []int64{0, 1, 1, 1, 2, 2}}, {3, []int64{166, 167, 499, 500, 501, 833, 834}, []int64{0, 1, 1, 2, 2, 2, 3}}, {500, []int64{1, 2, 3, 999}, []int64{1, 1, 2, 500}}, {499, []int64{1, 3, 500, 999}, []int64{0, 1, 250, 499}}, {501, []int64{1, 3, 500, 999}, []int64{1, 2, 251, 500}}, {100, []int64{4, 5, 6, 15, 995}, []int64{0, 1, 1, 2, 100}},
		{1, tenths, []int64{0, 0, 0, 0, 0, 1, 1, 1, 1, 1}}, {5000, tenths, []int64{5, 500, 1000, 1500, 2000, 2500, 3000, 3500, 4000, 4995}}, {5000, []int64{1, 2, 3, 4, 5, 6, 7, 8, 9, 10}, []int64{5, 10, 15, 20, 25, 30, 35, 40, 45, 50}},
	} {
		got, code := impl.NotchesOf(x.length, x.shares)
		same(t, fmt.Sprint("notches of ", x.length, " at ", x.shares), []any{got, code}, []any{x.want, int64(impl.OK)})
	}
}

// placesAt returns the nearest places to shares of a length.
func placesAt(length int64, shares []int64) []int64 {
	var places []int64
	for _, share := range shares {
		places = append(places, nearestOf(big.NewRat(length*share, 1000)))
	}
	return places
}

// sharesFor returns up to ten shares, crowded at one end, everywhere, or just at halves of small lengths.
func sharesFor(n *numbers, i int64) []int64 {
	switch i % 4 {
	case 0:
		return placesOf(n, i/4%11, 1, 12)
	case 1:
		return placesOf(n, i/4%11, 988, 999)
	case 2:
		return []int64{125, 250, 375, 500, 625, 750, 875}[:i/4%8]
	}
	return placesOf(n, i/4%11, 1, 999)
}

func TestNotchesAreNearest(t *testing.T) {
	var n numbers
	for i := range int64(5000) {
		shares, length := sharesFor(&n, i), n.from(1, []int64{8, 600, 5000}[i%3])
		got, code := impl.NotchesOf(length, shares)
		same(t, fmt.Sprint("notches of ", length, " at ", shares), []any{got, code}, []any{placesAt(length, shares), int64(impl.OK)})
	}
}

func TestNotchFault(t *testing.T) {
	for _, x := range []struct {
		a, b        int64
		left, right []int64
		most, want  int64
	}{
		{400, 410, []int64{100, 200}, []int64{103, 205}, 1, -1}, {400, 410, []int64{100, 200}, []int64{103, 205}, 0, 0}, {410, 400, []int64{103, 205}, []int64{100, 200}, 0, 0}, {400, 410, []int64{200, 400}, []int64{205, 410}, 0, -1}, {400, 410, []int64{200, 300}, []int64{205, 308}, 0, 1}, {400, 410, nil, nil, 0, -1}, {400, 410, []int64{}, nil, 5000, -1}, {1, 1, nil, nil, 0, -1},
		// At both ends of the edges.
		{1, 1, []int64{0, 1}, []int64{0, 1}, 0, -1}, {1, 5000, []int64{0, 1}, []int64{0, 5000}, 0, -1}, {5000, 1, []int64{0, 5000}, []int64{0, 1}, 0, -1}, {400, 410, []int64{0, 400}, []int64{0, 410}, 0, -1}, {400, 410, []int64{0, 400}, []int64{0, 409}, 0, 1}, {400, 410, []int64{0, 399}, []int64{1, 410}, 0, 0},
		// A difference of exactly most times the lesser edge, and one more.
		{2, 3, []int64{2}, []int64{2}, 1, -1}, {2, 3, []int64{2}, []int64{2}, 0, 0}, {2, 3, []int64{1}, []int64{0}, 1, 0}, {2, 3, []int64{1}, []int64{0}, 2, -1}, {2, 3, []int64{2}, []int64{1}, 2, -1}, {2, 3, []int64{2}, []int64{1}, 1, 0}, {3, 2, []int64{2}, []int64{2}, 1, -1}, {3, 2, []int64{0}, []int64{1}, 1, 0}, {3, 2, []int64{1}, []int64{2}, 2, -1}, {3, 2, []int64{1}, []int64{2}, 1, 0},
		{400, 400, []int64{100}, []int64{103}, 3, -1}, {400, 400, []int64{100}, []int64{103}, 2, 0}, {400, 400, []int64{103}, []int64{100}, 3, -1}, {400, 400, []int64{103}, []int64{100}, 2, 0}, {400, 401, []int64{400}, []int64{400}, 1, -1}, {400, 401, []int64{400}, []int64{400}, 0, 0}, {400, 401, []int64{1}, []int64{0}, 1, 0}, {400, 401, []int64{0}, []int64{1}, 1, -1}, {401, 400, []int64{0}, []int64{1}, 1, 0}, {401, 400, []int64{1}, []int64{0}, 1, -1},
		{5000, 5000, []int64{0}, []int64{5000}, 5000, -1}, {5000, 5000, []int64{0}, []int64{5000}, 4999, 0}, {5000, 1, []int64{5000}, []int64{0}, 5000, -1}, {5000, 1, []int64{5000}, []int64{0}, 4999, 0}, {1, 5000, []int64{1}, []int64{0}, 5000, -1}, {1, 5000, []int64{1}, []int64{0}, 4999, 0},
		// Only the first one counts, and those behind it are looked at.
		{100, 100, []int64{10, 20, 30}, []int64{10, 22, 33}, 2, 2}, {100, 100, []int64{10, 20, 30}, []int64{10, 22, 33}, 1, 1}, {100, 100, []int64{10, 20, 30}, []int64{11, 20, 33}, 0, 0}, {100, 100, []int64{10, 20, 30}, []int64{10, 20, 30}, 0, -1}, {100, 100, []int64{0, 1, 2, 3, 4, 5, 6, 7, 8, 9}, []int64{0, 1, 2, 3, 4, 5, 6, 7, 8, 10}, 0, 9}, {100, 100, []int64{0, 1, 2, 3, 4, 5, 6, 7, 8, 9}, []int64{0, 1, 2, 3, 4, 5, 6, 7, 8, 10}, 1, -1},
	} {
		checkNotches(t, x.a, x.b, x.left, x.right, x.most, x.want)
		checkNotches(t, x.b, x.a, x.right, x.left, x.most, x.want)
	}
}

func checkNotches(t *testing.T, a, b int64, left, right []int64, most, want int64) {
	t.Helper()
	got, code := impl.NotchFault(a, b, left, right, most)
	same(t, fmt.Sprint("notches ", left, " of ", a, " and ", right, " of ", b, " with ", most), []any{got, code}, []any{want, int64(impl.OK)})
}

// faultAt compares the shares at which the notches are: they may differ by most tenths of a millimetre of the longer edge.
func faultAt(a, b int64, left, right []int64, most int64) int64 {
	for i := range left {
		gap := new(big.Rat).Sub(big.NewRat(left[i], a), big.NewRat(right[i], b))
		if gap.Abs(gap).Cmp(big.NewRat(most, max(a, b))) > 0 {
			return int64(i)
		}
	}
	return -1
}

// TestNotchFaultsAreFirst looks for the least most with which all notches meet, and tries those below it, too.
func TestNotchFaultsAreFirst(t *testing.T) {
	var n numbers
	found := map[int64]int{}
	for i := range int64(4000) {
		count := i % 11
		size := []int64{20, 300, 5000}[i/11%3]
		a, b := n.from(max(1, count), size), n.from(max(1, count), size)
		left, right := placesOf(&n, count, 0, a), placesOf(&n, count, 0, b)
		if i%2 == 0 {
			b = a
			right = slices.Clone(left)
			if count > 0 {
				right[count-1] = n.from(right[count-1], b)
			}
		}
		least := int64(0)
		for faultAt(a, b, left, right, least) >= 0 {
			least += max(1, size/300)
		}
		for _, most := range []int64{least, least - 1, least / 2, 1, 0, 5000} {
			if most >= 0 && most <= 5000 {
				want := faultAt(a, b, left, right, most)
				found[want]++
				checkNotches(t, a, b, left, right, most, want)
			}
		}
	}
	for k := int64(-1); k < 10; k++ {
		if found[k] < 20 {
			t.Errorf("only %d faults at %d", found[k], k)
		}
	}
}

// TestNotchesAtTheSameSharesMeet is for promise 9: each notch is off by at most a half, so that both together are off by at most half of both edges. On equal edges, a notch that is moved further does not meet.
func TestNotchesAtTheSameSharesMeet(t *testing.T) {
	var n numbers
	met := 0
	for i := range int64(6000) {
		size := []int64{5, 50, 500, 5000}[i/4%4]
		a, b, shares := n.from(1, size), n.from(1, size), sharesFor(&n, i)
		left, _ := impl.NotchesOf(a, shares)
		right, _ := impl.NotchesOf(b, shares)
		most := (a + b + 2*min(a, b) - 1) / (2 * min(a, b))
		if i%3 == 0 {
			b, right, most = a, slices.Clone(left), 0
		}
		// On short edges, some notches are at the same place.
		if !slices.Equal(left, slices.Compact(slices.Clone(left))) || !slices.Equal(right, slices.Compact(slices.Clone(right))) {
			_, code := impl.NotchFault(a, b, left, right, most)
			same(t, "code of notches at the same place", code, int64(impl.ErrRange))
			continue
		}
		checkNotches(t, a, b, left, right, most, -1)
		met += len(right)
		for k := 0; k < len(right) && a == b; k++ {
			moved := slices.Clone(right)
			moved[k] += most + 1
			if moved[k] <= b && (k == len(right)-1 || moved[k] < right[k+1]) {
				checkNotches(t, a, b, left, moved, most, int64(k))
			}
		}
	}
	if met < 5000 {
		t.Errorf("only %d notches meet", met)
	}
}

func TestEaseOf(t *testing.T) {
	for _, x := range []struct {
		a, b         int64
		shares, want []int64
	}{
		{400, 410, []int64{250, 500}, []int64{3, 2, 5}}, {410, 400, []int64{250, 500}, []int64{3, 2, 5}}, {400, 410, nil, []int64{10}}, {410, 400, []int64{}, []int64{10}}, {400, 400, nil, []int64{0}}, {400, 400, []int64{250, 500}, []int64{0, 0, 0}}, {1, 1, tenths, repeated(0, 11)}, {5000, 5000, []int64{500}, []int64{0, 0}},
		{1, 5000, []int64{1, 999}, []int64{5, 4989, 5}}, {5000, 1, nil, []int64{4999}}, {1, 2, []int64{500}, []int64{1, 0}}, {2, 1, []int64{499}, []int64{0, 1}}, {1, 2, []int64{1, 999}, []int64{0, 1, 0}}, {1, 2, []int64{1, 499}, []int64{0, 0, 1}}, {3, 1, []int64{250, 500, 750}, []int64{1, 0, 1, 0}}, {3, 1, []int64{249, 250, 749, 750}, []int64{0, 1, 0, 1, 0}},
		{1, 1001, []int64{1, 3, 6, 10, 500, 999}, []int64{1, 2, 3, 4, 490, 499, 1}}, {1000, 1010, tenths, []int64{0, 1, 1, 1, 1, 1, 1, 1, 1, 2, 0}}, {100, 105, tenths, []int64{0, 1, 0, 1, 0, 1, 0, 1, 0, 1, 0}}, {4999, 5000, []int64{500}, []int64{1, 0}}, {5000, 4999, []int64{500}, []int64{1, 0}},
	} {
		got, code := impl.EaseOf(x.a, x.b, x.shares)
		same(t, fmt.Sprint("ease of ", x.a, " and ", x.b, " between ", x.shares), []any{got, code}, []any{x.want, int64(impl.OK)})
	}
}

// TestEaseHasTheDifferenceAsItsSum is for promise 9: no part has less than nothing, and what all parts up to a share have is the nearest to this share of the difference.
func TestEaseHasTheDifferenceAsItsSum(t *testing.T) {
	var n numbers
	for i := range int64(6000) {
		size := []int64{4, 40, 600, 5000}[i/4%4]
		a, b, shares := n.from(1, size), n.from(1, size), sharesFor(&n, i)
		difference := max(a-b, b-a)
		name := fmt.Sprint("ease of ", a, " and ", b, " between ", shares)
		got, code := impl.EaseOf(a, b, shares)
		same(t, "code of "+name, code, int64(impl.OK))
		same(t, "sum of "+name, totalOf(got), difference)
		ends := append(placesAt(difference, shares), difference)
		same(t, "parts of "+name, len(got), len(ends))
		for k := range got {
			same(t, fmt.Sprint("parts up to ", k, " of ", name), totalOf(got[:k+1]), ends[k])
			same(t, "a part is less than nothing", got[k] < 0, false)
		}
		other, code := impl.EaseOf(b, a, shares)
		same(t, name+" the other way round", []any{other, code}, []any{got, int64(impl.OK)})
	}
}

func TestFoldLength(t *testing.T) {
	for _, x := range []struct {
		length int64
		folds  []int64
		thick  int64
		want   int64
	}{
		{400, []int64{50, 40}, 5, 300}, {400, []int64{40, 50}, 5, 300}, {400, nil, 5, 400}, {400, []int64{}, 100, 400}, {1, nil, 0, 1}, {1, nil, 100, 1}, {5000, nil, 100, 5000}, {400, []int64{0}, 0, 400}, {400, []int64{0}, 100, 300}, {400, []int64{200}, 0, 200}, {400, []int64{200}, 100, 100}, {400, []int64{1}, 1, 398}, {400, []int64{10, 10, 10}, 1, 367}, {400, []int64{50, 0, 40}, 5, 295},
		{5000, repeated(200, 10), 100, 2000}, {5000, repeated(0, 10), 100, 4000}, {5000, repeated(200, 10), 0, 3000}, {5000, repeated(0, 10), 0, 5000}, {5000, []int64{1, 2, 3, 4, 5, 6, 7, 8, 9, 200}, 99, 5000 - 245 - 990}, {400, []int64{199, 1}, 99, 2},
		// Just 1 is left.
		{1, []int64{0}, 0, 1}, {101, []int64{50, 40}, 5, 1}, {201, []int64{200}, 0, 1}, {301, []int64{200}, 100, 1}, {101, []int64{0}, 100, 1}, {3001, repeated(200, 10), 100, 1}, {1001, repeated(0, 10), 100, 1}, {2, []int64{1}, 0, 1}, {2, []int64{0}, 1, 1},
	} {
		got, code := impl.FoldLength(x.length, x.folds, x.thick)
		same(t, fmt.Sprint(x.length, " with the folds ", x.folds, " and ", x.thick), []any{got, code}, []any{x.want, int64(impl.OK)})
		if x.want == 1 && x.length > 1 {
			checkFoldCode(t, x.length-1, x.folds, x.thick, impl.ErrState)
		}
	}
	for _, x := range []struct {
		length int64
		folds  []int64
		thick  int64
	}{
		{100, []int64{50, 40}, 5}, {100, []int64{50, 40}, 6}, {1, []int64{1}, 0}, {1, []int64{0}, 1}, {1, repeated(200, 10), 100}, {200, []int64{200}, 0}, {3000, repeated(200, 10), 100}, {2999, repeated(200, 10), 100}, {1000, repeated(0, 10), 100}, {99, []int64{0}, 100}, {300, []int64{1, 99, 200}, 0},
	} {
		checkFoldCode(t, x.length, x.folds, x.thick, impl.ErrState)
	}
}

func checkFoldCode(t *testing.T, length int64, folds []int64, thick, want int64) {
	t.Helper()
	got, code := impl.FoldLength(length, folds, thick)
	same(t, fmt.Sprint(length, " with the folds ", folds, " and ", thick), []any{got, code}, []any{int64(0), want})
}

// TestFoldsOneByOne folds an edge by one fold after the other, which must be the same as all folds at once.
func TestFoldsOneByOne(t *testing.T) {
	var n numbers
	rests := 0
	for i := range int64(4000) {
		length, thick := n.from(1, []int64{400, 5000}[i%2]), n.from(0, []int64{5, 100}[i/2%2])
		folds := lengthsOf(&n, i%11, 0, []int64{20, 200}[i/4%2])
		rest := length
		for _, fold := range folds {
			rest -= fold
			rest -= thick
		}
		got, code := impl.FoldLength(length, folds, thick)
		want := []any{rest, int64(impl.OK)}
		if rest < 1 {
			want = []any{int64(0), int64(impl.ErrState)}
		} else {
			rests++
		}
		same(t, fmt.Sprint(length, " with the folds ", folds, " and ", thick), []any{got, code}, want)
	}
	if rests < 1000 || rests > 3900 {
		t.Errorf("something is left of %d edges", rests)
	}
}

// badShares returns lists that are no shares.
func badShares() [][]int64 {
	eleven := []int64{1, 2, 3, 4, 5, 6, 7, 8, 9, 10, 11}
	all := [][]int64{eleven, placesOf(new(numbers), 12, 1, 999), repeated(1, 1000), {0}, {1000}, {0, 500}, {500, 1000}, {0, 1000}, {500, 500}, {1, 1}, {999, 999}, {500, 499}, {999, 1}, {1, 500, 500}, {1, 500, 499}, {500, 1, 999}, {1, 2, 3, 4, 5, 6, 7, 8, 9, 9}, {1, 2, 3, 4, 5, 6, 7, 8, 10, 9}, {1, 2, 3, 4, 5, 6, 7, 8, 9, 1000}, {0, 1, 2, 3, 4, 5, 6, 7, 8, 9}}
	for _, x := range []int64{0, -1, 1000, 1001, -500, 1 << 32, 1<<32 + 1, -1 << 32, math.MinInt64, math.MinInt64 + 1, math.MaxInt64 - 1, math.MaxInt64} {
		all = append(all, []int64{x}, []int64{x, 500}, []int64{500, x}, []int64{250, x, 500}, []int64{x, x})
	}
	return all
}

// checkSharesCode expects ErrRange of both functions of shares, whichever edge is the longer one.
func checkSharesCode(t *testing.T, a, b int64, shares []int64) {
	t.Helper()
	for range 2 {
		got, code := impl.EaseOf(a, b, shares)
		same(t, fmt.Sprint("ease of ", a, " and ", b, " between ", shares), []any{got, code}, []any{noLengths, int64(impl.ErrRange)})
		a, b = b, a
	}
	got, code := impl.NotchesOf(a, shares)
	same(t, fmt.Sprint("notches of ", a, " at ", shares), []any{got, code}, []any{noLengths, int64(impl.ErrRange)})
}

func TestErrorsOfShares(t *testing.T) {
	for _, shares := range badShares() {
		checkSharesCode(t, 400, 410, shares)
		checkSharesCode(t, 1, 5000, shares)
		checkSharesCode(t, 400, 400, shares)
		for _, length := range badStripLengths {
			checkSharesCode(t, length, 400, shares)
			checkSharesCode(t, length, length, shares)
		}
	}
	for _, length := range badStripLengths {
		for _, shares := range [][]int64{nil, {}, {1}, {999}, {250, 500}, tenths} {
			checkSharesCode(t, length, 400, shares)
			checkSharesCode(t, length, length, shares)
		}
	}
}

// badNotches returns lists that no edge with this end has as notches; the end must be 20 at least.
func badNotches(end int64) [][]int64 {
	all := [][]int64{{0, 1, 2, 3, 4, 5, 6, 7, 8, 9, 10}, {end - 10, end - 9, end - 8, end - 7, end - 6, end - 5, end - 4, end - 3, end - 2, end - 1, end}, repeated(1, 1000), {-1}, {end + 1}, {-1, 5}, {5, end + 1}, {0, end + 1}, {-1, end}, {5, 5}, {0, 0}, {end, end}, {6, 5}, {end, 0}, {0, 6, 6}, {0, 6, 5}, {6, 0, end}, {0, 1, 2, 3, 4, 5, 6, 7, 8, 8}, {0, 1, 2, 3, 4, 5, 6, 7, 9, 8}}
	for _, x := range []int64{-1, end + 1, -5, end + 2, 5001, 1 << 32, 1<<32 + 1, -1 << 32, math.MinInt64, math.MinInt64 + 1, math.MaxInt64 - 1, math.MaxInt64} {
		all = append(all, []int64{x}, []int64{x, 5}, []int64{5, x}, []int64{0, x, end}, []int64{x, x})
	}
	return all
}

// checkNotchCode expects a code, whichever edge comes first.
func checkNotchCode(t *testing.T, a, b int64, left, right []int64, most, want int64) {
	t.Helper()
	for range 2 {
		got, code := impl.NotchFault(a, b, left, right, most)
		same(t, fmt.Sprint("notches ", left, " of ", a, " and ", right, " of ", b, " with ", most), []any{got, code}, []any{int64(0), want})
		a, b, left, right = b, a, right, left
	}
}

// badMostTimes are no numbers that the lesser edge may be taken.
var badMostTimes = []int64{-1, 5001, -2, 5002, -5000, 1 << 32, 1<<32 + 1, -1 << 32, math.MinInt64, math.MinInt64 + 1, math.MaxInt64 - 1, math.MaxInt64}

// TestErrorsOfNotches has each argument alone and together with others that are wrong, too; whether there are as many notches on both edges is looked at last.
func TestErrorsOfNotches(t *testing.T) {
	for _, end := range []int64{20, 400, 4999, 5000} {
		for i, bad := range badNotches(end) {
			checkNotchCode(t, end, 5000, bad, nil, 0, impl.ErrRange)
			checkNotchCode(t, end, 400, bad, repeated(0, len(bad)), 0, impl.ErrRange)
			checkNotchCode(t, end, end, bad, bad, 5000, impl.ErrRange)
			if len(bad) < 11 {
				checkNotchCode(t, end, 5000, bad, tenths[:len(bad)], 5000, impl.ErrRange)
			}
			checkNotchCode(t, end, 5000, bad, []int64{1, 2}, badMostTimes[i%12], impl.ErrRange)
			checkNotchCode(t, end, badStripLengths[i%12], bad, nil, 0, impl.ErrRange)
		}
	}
	for i, length := range badStripLengths {
		checkNotchCode(t, length, 400, nil, nil, 0, impl.ErrRange)
		checkNotchCode(t, length, 400, []int64{0}, []int64{0}, 0, impl.ErrRange)
		checkNotchCode(t, length, 400, []int64{0}, []int64{0, 1}, 0, impl.ErrRange)
		checkNotchCode(t, length, length, nil, nil, 0, impl.ErrRange)
		checkNotchCode(t, length, 1, nil, nil, badMostTimes[i%12], impl.ErrRange)
	}
	for _, most := range badMostTimes {
		checkNotchCode(t, 400, 410, []int64{100, 200}, []int64{103, 205}, most, impl.ErrRange)
		checkNotchCode(t, 400, 410, nil, nil, most, impl.ErrRange)
		checkNotchCode(t, 400, 410, []int64{100}, nil, most, impl.ErrRange)
	}
	// A notch that is on the other edge only.
	checkNotchCode(t, 400, 410, []int64{401}, []int64{401}, 5000, impl.ErrRange)
	checkNotchCode(t, 1, 5000, []int64{2}, []int64{2}, 5000, impl.ErrRange)
}

func TestNotchesThatAreNotAsMany(t *testing.T) {
	for count := range int64(11) {
		for other := range count {
			for _, most := range []int64{0, 1, 5000} {
				checkNotchCode(t, 400, 410, placesOf(new(numbers), count, 0, 400), placesOf(new(numbers), other, 0, 410), most, impl.ErrClash)
				checkNotchCode(t, 5000, 20, placesOf(new(numbers), count, 0, 5000), placesOf(new(numbers), other, 0, 20), most, impl.ErrClash)
			}
		}
	}
	checkNotchCode(t, 400, 400, []int64{0, 400}, []int64{0}, 0, impl.ErrClash)
	checkNotchCode(t, 1, 1, []int64{0}, nil, 0, impl.ErrClash)
	checkNotchCode(t, 1, 1, []int64{0}, []int64{0, 1}, 0, impl.ErrClash)
}

// TestErrorsOfFolds has each argument alone and together with others that are wrong, too; what is left is looked at last.
func TestErrorsOfFolds(t *testing.T) {
	for _, folds := range [][]int64{repeated(0, 11), repeated(0, 12), repeated(0, 1000), repeated(200, 11), repeated(400, 11)} {
		for _, length := range []int64{1, 5000, 0, 5001} {
			checkFoldCode(t, length, folds, 0, impl.ErrRange)
			checkFoldCode(t, length, folds, 100, impl.ErrRange)
			checkFoldCode(t, length, folds, 101, impl.ErrRange)
		}
	}
	badThick := []int64{-1, 101, -2, 102, 200, -100, 1 << 32, 1<<32 + 1, -1 << 32, math.MinInt64, math.MinInt64 + 1, math.MaxInt64 - 1, math.MaxInt64}
	for i, thick := range badThick {
		for _, folds := range [][]int64{nil, {}, {0}, {50, 40}, repeated(200, 10), {badAllows[i]}} {
			checkFoldCode(t, 400, folds, thick, impl.ErrRange)
			checkFoldCode(t, 1, folds, thick, impl.ErrRange)
			checkFoldCode(t, badStripLengths[i], folds, thick, impl.ErrRange)
		}
	}
	for i, fold := range badAllows {
		last := append(repeated(0, 9), fold)
		for _, folds := range [][]int64{{fold}, {fold, 50}, {50, fold}, {50, fold, 40}, {fold, fold}, last} {
			checkFoldCode(t, 5000, folds, 5, impl.ErrRange)
			checkFoldCode(t, 1, folds, 5, impl.ErrRange)
			checkFoldCode(t, badStripLengths[i], folds, 5, impl.ErrRange)
		}
	}
	for _, length := range badStripLengths {
		for _, folds := range [][]int64{nil, {0}, {50, 40}, repeated(200, 10)} {
			checkFoldCode(t, length, folds, 0, impl.ErrRange)
			checkFoldCode(t, length, folds, 100, impl.ErrRange)
		}
	}
}
