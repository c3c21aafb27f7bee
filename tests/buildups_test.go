package tests

import (
	"fmt"
	"math"
	"math/big"
	"slices"
	"testing"

	"loop.example/g01043/impl"
)

func TestLimitsOfBuildUps(t *testing.T) {
	same(t, "MaxLayers", impl.MaxLayers, 8)
	same(t, "MaxThickness", impl.MaxThickness, 200)
	same(t, "MaxBuild", impl.MaxBuild, 1000)
}

// goodLayers returns layers of 1 to MaxLayers kinds, with numbers at both ends of their range.
func goodLayers() [][]int64 {
	list := [][]int64{{1}, {200}, {1, 200}, {199, 200}, {1, 2}, {100}, {4, 10, 12}, {1, 2, 3, 4, 5, 6, 7, 8}, {193, 194, 195, 196, 197, 198, 199, 200}, {1, 3, 9, 27, 81, 100, 150, 200}}
	var all []int64
	for x := int64(1); x <= 8; x++ {
		all = append(all, 25*x)
		list = append(list, slices.Clone(all))
	}
	return list
}

// badLayers returns lists that are no layers.
func badLayers() [][]int64 {
	list := [][]int64{nil, {}, {1, 1}, {2, 1}, {200, 200}, {200, 199}, {1, 3, 2}, {3, 1, 2}, {1, 2, 2}, {1, 1, 2}, {1, 2, 3, 4, 5, 6, 7, 8, 9}, {10, 10, 10, 10, 10, 10, 10, 10}, {1, 2, 3, 4, 5, 6, 8, 7}, {8, 7, 6, 5, 4, 3, 2, 1}, {192, 193, 194, 195, 196, 197, 198, 199, 200}, {0, 0}, {201, 201}, make([]int64, 1000)}
	for _, x := range []int64{0, -1, 201, -200, 1 << 32, math.MinInt64, math.MaxInt64} {
		list = append(list, []int64{x}, []int64{x, 100}, []int64{100, x}, []int64{100, x, 200}, []int64{1, 2, 3, 4, 5, 6, 7, x}, []int64{x, 2, 3, 4, 5, 6, 7, 8})
	}
	return list
}

func TestValidLayers(t *testing.T) {
	for _, layers := range goodLayers() {
		same(t, fmt.Sprint("are layers: ", layers), impl.ValidLayers(layers), true)
	}
	for _, layers := range badLayers() {
		same(t, fmt.Sprint("are layers: ", layers), impl.ValidLayers(layers), false)
	}
}

// TestValidLayersInEachPlace changes one number of layers so that they just increase, or just do not.
func TestValidLayersInEachPlace(t *testing.T) {
	for k := range 8 {
		for _, x := range []struct {
			change int64
			want   bool
		}{{-11, false}, {-10, false}, {-9, true}, {0, true}, {9, true}, {10, false}, {11, false}} {
			layers := []int64{60, 70, 80, 90, 100, 110, 120, 130}
			layers[k] += x.change
			want := x.want || k == 0 && x.change < 0 || k == 7 && x.change > 0
			same(t, fmt.Sprint("are layers: ", layers), impl.ValidLayers(layers), want)
		}
	}
}

// TestExampleOfBuildUps is the example of chapter 6.
func TestExampleOfBuildUps(t *testing.T) {
	build, code := impl.FewestLayers([]int64{4, 10, 12}, 20)
	same(t, "20", []any{build, code}, []any{[]int64{10, 10}, int64(impl.OK)})
	build, code = impl.FewestWithin([]int64{4, 10, 12}, 21, 22)
	same(t, "21 to 22", []any{build, code}, []any{[]int64{12, 10}, int64(impl.OK)})
}

// noBuild is what functions return beside a code, and where it is wanted, that there is no build.
var noBuild = []int64{-1}

// built returns what is expected of a function that returns a build, and perhaps a price: this build and OK, or nothing and the code.
func built(build []int64, missing int64) []any {
	if slices.Equal(build, noBuild) {
		return []any{[]int64(nil), missing}
	}
	return []any{build, int64(impl.OK)}
}

func TestFewestLayers(t *testing.T) {
	for _, x := range []struct {
		layers []int64
		sum    int64
		want   []int64
	}{
		{[]int64{4, 10, 12}, 0, nil}, {[]int64{1}, 0, nil}, {[]int64{200}, 0, nil}, {[]int64{1, 2, 3, 4, 5, 6, 7, 8}, 0, nil},
		{[]int64{4, 10, 12}, 4, []int64{4}}, {[]int64{4, 10, 12}, 10, []int64{10}}, {[]int64{4, 10, 12}, 12, []int64{12}}, {[]int64{4, 10, 12}, 8, []int64{4, 4}}, {[]int64{4, 10, 12}, 18, []int64{10, 4, 4}}, {[]int64{4, 10, 12}, 1000, append(repeated(12, 83), 4)},
		{[]int64{4, 10, 12}, 1, noBuild}, {[]int64{4, 10, 12}, 2, noBuild}, {[]int64{4, 10, 12}, 3, noBuild}, {[]int64{4, 10, 12}, 5, noBuild}, {[]int64{4, 10, 12}, 6, noBuild}, {[]int64{4, 10, 12}, 7, noBuild}, {[]int64{4, 10, 12}, 11, noBuild}, {[]int64{4, 10, 12}, 13, noBuild}, {[]int64{4, 10, 12}, 999, noBuild},
		{[]int64{1}, 1, []int64{1}}, {[]int64{1}, 999, repeated(1, 999)}, {[]int64{1}, 1000, repeated(1, 1000)},
		{[]int64{200}, 1000, repeated(200, 5)}, {[]int64{200}, 200, []int64{200}}, {[]int64{200}, 199, noBuild}, {[]int64{200}, 201, noBuild}, {[]int64{200}, 1, noBuild}, {[]int64{200}, 999, noBuild},
		{[]int64{1, 200}, 999, append(repeated(200, 4), repeated(1, 199)...)}, {[]int64{1, 200}, 1000, repeated(200, 5)}, {[]int64{1, 200}, 199, repeated(1, 199)},
		{[]int64{199, 200}, 999, []int64{200, 200, 200, 200, 199}}, {[]int64{199, 200}, 995, repeated(199, 5)}, {[]int64{199, 200}, 994, noBuild}, {[]int64{199, 200}, 801, noBuild}, {[]int64{199, 200}, 800, repeated(200, 4)}, {[]int64{199, 200}, 1000, repeated(200, 5)},
		{[]int64{7}, 1000, noBuild}, {[]int64{7}, 994, repeated(7, 142)}, {[]int64{8}, 1000, repeated(8, 125)},
		// The greatest layers do not always lead to the fewest ones, nor to any build.
		{[]int64{1, 5, 6, 9}, 11, []int64{6, 5}}, {[]int64{1, 15, 25}, 30, []int64{15, 15}}, {[]int64{1, 15, 25}, 31, []int64{15, 15, 1}}, {[]int64{6, 9, 20}, 21, []int64{9, 6, 6}}, {[]int64{6, 9, 20}, 43, noBuild}, {[]int64{6, 9, 20}, 44, []int64{20, 9, 9, 6}}, {[]int64{3, 200}, 999, append(repeated(200, 3), repeated(3, 133)...)},
		// Equally many layers: the greatest numbers from the first one on.
		{[]int64{1, 2, 3, 4}, 5, []int64{4, 1}}, {[]int64{3, 4, 5, 6}, 9, []int64{6, 3}}, {[]int64{2, 3, 4, 5}, 7, []int64{5, 2}}, {[]int64{1, 4, 5, 8}, 9, []int64{8, 1}}, {[]int64{1, 5, 6, 10}, 16, []int64{10, 6}}, {[]int64{1, 3, 4, 6}, 12, []int64{6, 6}}, {[]int64{5, 6, 7, 8, 9}, 21, []int64{9, 7, 5}}, {[]int64{2, 5, 6, 7}, 18, []int64{7, 6, 5}}, {[]int64{1, 6, 7, 12}, 20, []int64{12, 7, 1}}, {[]int64{1, 2, 3, 4, 5, 6, 7, 8}, 1000, repeated(8, 125)}, {[]int64{1, 2, 3, 4, 5, 6, 7, 8}, 999, append(repeated(8, 124), 7)},
	} {
		build, code := impl.FewestLayers(x.layers, x.sum)
		same(t, fmt.Sprint("first build of ", x.layers, " with the sum ", x.sum), []any{build, code}, built(x.want, impl.ErrNotFound))
	}
}

func TestFewestWithin(t *testing.T) {
	for _, x := range []struct {
		layers    []int64
		low, high int64
		want      []int64
	}{
		{[]int64{4, 10, 12}, 0, 0, nil}, {[]int64{4, 10, 12}, 0, 1, nil}, {[]int64{4, 10, 12}, 0, 12, nil}, {[]int64{4, 10, 12}, 0, 1000, nil}, {[]int64{1}, 0, 1000, nil}, {[]int64{200}, 0, 1000, nil},
		{[]int64{4, 10, 12}, 1, 3, noBuild}, {[]int64{4, 10, 12}, 1, 4, []int64{4}}, {[]int64{4, 10, 12}, 4, 4, []int64{4}}, {[]int64{4, 10, 12}, 4, 5, []int64{4}}, {[]int64{4, 10, 12}, 5, 7, noBuild}, {[]int64{4, 10, 12}, 5, 8, []int64{4, 4}}, {[]int64{4, 10, 12}, 7, 8, []int64{4, 4}}, {[]int64{4, 10, 12}, 5, 10, []int64{10}}, {[]int64{4, 10, 12}, 5, 12, []int64{12}}, {[]int64{4, 10, 12}, 11, 11, noBuild}, {[]int64{4, 10, 12}, 13, 13, noBuild}, {[]int64{4, 10, 12}, 13, 15, []int64{10, 4}}, {[]int64{4, 10, 12}, 13, 16, []int64{12, 4}}, {[]int64{4, 10, 12}, 1, 1000, []int64{12}},
		{[]int64{4, 10, 12}, 1000, 1000, append(repeated(12, 83), 4)}, {[]int64{4, 10, 12}, 999, 1000, append(repeated(12, 83), 4)}, {[]int64{4, 10, 12}, 996, 1000, repeated(12, 83)}, {[]int64{4, 10, 12}, 997, 998, append(repeated(12, 82), 10, 4)}, {[]int64{4, 10, 12}, 999, 999, noBuild},
		{[]int64{200}, 1, 1000, []int64{200}}, {[]int64{200}, 200, 1000, []int64{200}}, {[]int64{200}, 201, 1000, []int64{200, 200}}, {[]int64{200}, 801, 1000, repeated(200, 5)}, {[]int64{200}, 801, 999, noBuild}, {[]int64{200}, 1000, 1000, repeated(200, 5)}, {[]int64{200}, 1, 199, noBuild}, {[]int64{200}, 1, 200, []int64{200}},
		{[]int64{1}, 1, 1000, []int64{1}}, {[]int64{1}, 1000, 1000, repeated(1, 1000)}, {[]int64{1}, 999, 1000, repeated(1, 999)}, {[]int64{1, 200}, 999, 1000, repeated(200, 5)}, {[]int64{1, 200}, 999, 999, append(repeated(200, 4), repeated(1, 199)...)},
		// The greatest numbers decide, not the greatest sum, and neither one against fewer layers.
		{[]int64{1, 12, 14}, 15, 24, []int64{14, 1}}, {[]int64{1, 12, 14}, 15, 26, []int64{14, 12}}, {[]int64{1, 12, 14}, 15, 25, []int64{14, 1}}, {[]int64{1, 12, 14}, 15, 28, []int64{14, 14}}, {[]int64{1, 12, 14}, 16, 25, []int64{12, 12}}, {[]int64{150, 200}, 201, 300, []int64{150, 150}}, {[]int64{150, 200}, 201, 399, []int64{200, 150}}, {[]int64{150, 200}, 201, 400, []int64{200, 200}}, {[]int64{1, 7, 10}, 14, 17, []int64{10, 7}}, {[]int64{1, 7, 10}, 14, 16, []int64{7, 7}}, {[]int64{1, 7, 10}, 12, 20, []int64{10, 10}}, {[]int64{1, 7, 10}, 13, 16, []int64{7, 7}}, {[]int64{1, 7, 10}, 9, 9, []int64{7, 1, 1}}, {[]int64{2, 9, 10}, 19, 29, []int64{10, 10}}, {[]int64{2, 9, 10}, 21, 28, []int64{10, 10, 2}},
	} {
		build, code := impl.FewestWithin(x.layers, x.low, x.high)
		same(t, fmt.Sprint("first build of ", x.layers, " from ", x.low, " to ", x.high), []any{build, code}, built(x.want, impl.ErrNotFound))
	}
}

// allBuilds returns all builds of layers, with numbers of at most most, whose sum is at most high.
func allBuilds(layers []int64, most, high int64) [][]int64 {
	list := [][]int64{nil}
	for _, x := range layers {
		if x > most || x > high {
			continue
		}
		for _, build := range allBuilds(layers, x, high-x) {
			list = append(list, append([]int64{x}, build...))
		}
	}
	return list
}

// layersOf returns count layers with numbers from low to high, of which there must be so many.
func layersOf(n *numbers, count, low, high int64) []int64 {
	var layers []int64
	for int64(len(layers)) < count {
		if x := n.from(low, high); !slices.Contains(layers, x) {
			layers = append(layers, x)
		}
	}
	slices.Sort(layers)
	return layers
}

// fewBuilds returns layers with at most some thousand builds, a sum for them, and all builds up to it.
func fewBuilds(n *numbers, i int64) ([]int64, int64, [][]int64) {
	layers, sum := layersOf(n, 1+i%8, 1, 12), n.from(0, 18)
	switch i % 3 {
	case 1:
		layers, sum = layersOf(n, 1+i%8, 20, 60), n.from(0, 200)
	case 2:
		layers, sum = layersOf(n, 1+i%8, 140, 200), n.from(600, 1000)
	}
	return layers, sum, allBuilds(layers, 200, sum)
}

// isBefore reports whether the build a comes before b, among those of which the first one is told.
func isBefore(a, b []int64) bool {
	return len(a) < len(b) || len(a) == len(b) && slices.Compare(a, b) > 0
}

// priceOf returns the sum of the prices of a build.
func priceOf(layers, prices, build []int64) int64 {
	var price int64
	for _, x := range build {
		price += prices[slices.Index(layers, x)]
	}
	return price
}

// firstOfAll returns the first one of the cheapest builds from low on.
func firstOfAll(layers, prices []int64, all [][]int64, low int64) []int64 {
	first, found := noBuild, false
	for _, build := range all {
		if totalOf(build) < low {
			continue
		}
		price, least := priceOf(layers, prices, build), int64(0)
		if found {
			least = priceOf(layers, prices, first)
		}
		if !found || price < least || price == least && isBefore(build, first) {
			first, found = build, true
		}
	}
	return first
}

// TestFirstBuildsAreFirst is for promise 6: it compares with all builds there are.
func TestFirstBuildsAreFirst(t *testing.T) {
	var n numbers
	var none, some int
	for i := range int64(3000) {
		layers, high, all := fewBuilds(&n, i)
		free := make([]int64, len(layers))
		low := max(0, high-n.from(0, []int64{0, 2, 10, 1000}[i/24%4]))
		want := firstOfAll(layers, free, all, low)
		build, code := impl.FewestWithin(layers, low, high)
		same(t, fmt.Sprint("first build of ", layers, " from ", low, " to ", high), []any{build, code}, built(want, impl.ErrNotFound))

		want = firstOfAll(layers, free, all, high)
		name := fmt.Sprint("first build of ", layers, " with the sum ", high)
		build, code = impl.FewestLayers(layers, high)
		same(t, name, []any{build, code}, built(want, impl.ErrNotFound))
		if code != impl.OK {
			none++
			continue
		}
		some++
		same(t, "sum of the "+name, totalOf(build), high)
	}
	if none < 300 || some < 300 {
		t.Errorf("%d sums have no build, %d have one", none, some)
	}
}

// TestFewestLayersOfAllSums is for promise 6: each layer more reaches the sums that are one layer further.
func TestFewestLayersOfAllSums(t *testing.T) {
	for _, layers := range goodLayers() {
		fewest := map[int64]int{0: 0}
		for count := 1; count <= 1000; count++ {
			for sum := int64(1); sum <= 1000; sum++ {
				if _, ok := fewest[sum]; ok {
					continue
				}
				for _, x := range layers {
					if before, ok := fewest[sum-x]; ok && before == count-1 {
						fewest[sum] = count
					}
				}
			}
		}
		for sum := range int64(1001) {
			name := fmt.Sprint("first build of ", layers, " with the sum ", sum)
			build, code := impl.FewestLayers(layers, sum)
			count, ok := fewest[sum]
			if !ok {
				same(t, name, []any{build, code}, []any{[]int64(nil), int64(impl.ErrNotFound)})
				continue
			}
			same(t, name, []any{len(build), totalOf(build), code}, []any{int64(count), sum, int64(impl.OK)})
			within, code := impl.FewestWithin(layers, sum, sum)
			same(t, name+" alone", []any{within, code}, []any{build, int64(impl.OK)})
			checkBuild(t, name, layers, build)
		}
	}
}

// checkBuild checks that a build has only such layers, in descending order.
func checkBuild(t *testing.T, name string, layers, build []int64) {
	t.Helper()
	for i, x := range build {
		if !slices.Contains(layers, x) || i > 0 && x > build[i-1] {
			t.Errorf("%s: %v is no build of %v", name, build, layers)
		}
	}
}

func TestCountBuilds(t *testing.T) {
	eight := []int64{1, 2, 3, 4, 5, 6, 7, 8}
	const full = -1
	for _, x := range []struct {
		layers    []int64
		sum, want int64
	}{
		{[]int64{4, 10, 12}, 20, 3}, {[]int64{4, 10, 12}, 0, 1}, {[]int64{4, 10, 12}, 4, 1}, {[]int64{4, 10, 12}, 12, 2}, {[]int64{4, 10, 12}, 1, 0}, {[]int64{4, 10, 12}, 6, 0}, {[]int64{4, 10, 12}, 11, 0}, {[]int64{4, 10, 12}, 999, 0},
		{[]int64{1}, 0, 1}, {[]int64{1}, 1, 1}, {[]int64{1}, 1000, 1}, {[]int64{200}, 0, 1}, {[]int64{200}, 1000, 1}, {[]int64{200}, 999, 0}, {[]int64{200}, 199, 0}, {[]int64{1, 200}, 1000, 6}, {[]int64{1, 200}, 999, 5}, {[]int64{199, 200}, 1000, 1}, {[]int64{199, 200}, 994, 0},
		{[]int64{1, 2}, 1000, 501}, {[]int64{1, 2}, 999, 500}, {[]int64{1, 2, 3}, 6, 7}, {[]int64{1, 2, 3}, 1000, 83834}, {eight, 0, 1}, {eight, 8, 22}, {eight, 7, 15},
		// Just as many as may be told, and more.
		{eight, 778, 995854043681}, {eight, 779, full}, {eight, 780, full}, {eight, 1000, full},
		{[]int64{1, 2, 3, 4, 5, 6, 9, 17}, 896, 999984306050}, {[]int64{1, 2, 3, 4, 5, 6, 9, 17}, 897, full}, {[]int64{1, 2, 3, 4, 8, 9, 10, 13}, 993, 999979586686}, {[]int64{1, 2, 3, 4, 5, 7, 9, 24}, 960, full}, {[]int64{1, 2, 3, 4, 5, 6, 9, 24}, 939, full}, {[]int64{1, 2, 3, 4, 5, 6, 9, 24}, 938, 992804550219},
	} {
		want := []any{x.want, int64(impl.OK)}
		if x.want == full {
			want = []any{int64(0), int64(impl.ErrFull)}
		}
		n, code := impl.CountBuilds(x.layers, x.sum)
		same(t, fmt.Sprint("builds of ", x.layers, " with the sum ", x.sum), []any{n, code}, want)
	}
}

// countsOf returns the numbers of builds with all sums from 0 to 1000, as coefficients of a product of series.
func countsOf(layers []int64) []*big.Int {
	var counts []*big.Int
	for range 1001 {
		counts = append(counts, new(big.Int))
	}
	counts[0].SetInt64(1)
	for _, x := range layers {
		for sum := x; sum <= 1000; sum++ {
			counts[sum].Add(counts[sum], counts[sum-x])
		}
	}
	return counts
}

// checkCount compares with a number of builds that may be too great to be told.
func checkCount(t *testing.T, layers []int64, sum int64, count *big.Int) bool {
	t.Helper()
	want := []any{int64(0), int64(impl.ErrFull)}
	if count.Cmp(big.NewInt(1000000000000)) <= 0 {
		want = []any{count.Int64(), int64(impl.OK)}
	}
	n, code := impl.CountBuilds(layers, sum)
	same(t, fmt.Sprint("builds of ", layers, " with the sum ", sum), []any{n, code}, want)
	return code == impl.OK
}

// TestNumbersOfBuilds has large layers, which have few builds, and small ones, which have more than can be told.
func TestNumbersOfBuilds(t *testing.T) {
	var n numbers
	var full int
	lists := append(goodLayers(), []int64{1, 2, 3, 4, 5, 6, 7, 9}, []int64{1, 2, 4, 5, 6, 7, 9, 10}, []int64{1, 3, 4, 5, 6, 7, 8, 9})
	for i := range int64(60) {
		lists = append(lists, layersOf(&n, 1+i%8, 1, []int64{12, 30, 200}[i/8%3]))
	}
	for _, layers := range lists {
		counts := countsOf(layers)
		for _, sum := range []int64{0, 1, layers[0], 200, 779, 998, 999, 1000, n.from(0, 1000), n.from(900, 1000)} {
			if !checkCount(t, layers, sum, counts[sum]) {
				full++
			}
		}
	}
	if full < 10 {
		t.Errorf("%d numbers are too great", full)
	}
	for i := range int64(600) {
		layers, sum, all := fewBuilds(&n, i)
		all = slices.DeleteFunc(all, func(build []int64) bool { return totalOf(build) != sum })
		checkCount(t, layers, sum, big.NewInt(int64(len(all))))
	}
}

// upTo returns the numbers from 1 to high that are no multiples.
func upTo(high, multiple int64) []int64 {
	var list []int64
	for x := int64(1); x <= high; x++ {
		if x%multiple != 0 {
			list = append(list, x)
		}
	}
	return list
}

func TestUnreachedSums(t *testing.T) {
	for _, x := range []struct {
		layers []int64
		until  int64
		want   []int64
	}{
		{[]int64{4, 10, 12}, 12, []int64{1, 2, 3, 5, 6, 7, 9, 11}}, {[]int64{4, 10, 12}, 13, []int64{1, 2, 3, 5, 6, 7, 9, 11, 13}}, {[]int64{4, 10, 12}, 0, nil}, {[]int64{4, 10, 12}, 1, []int64{1}}, {[]int64{4, 10, 12}, 4, []int64{1, 2, 3}},
		{[]int64{4, 10, 12}, 1000, append([]int64{1, 2, 3, 5, 6}, upTo(1000, 2)[3:]...)},
		{[]int64{1}, 0, nil}, {[]int64{1}, 1, nil}, {[]int64{1}, 1000, nil}, {[]int64{1, 200}, 1000, nil}, {[]int64{200}, 0, nil}, {[]int64{200}, 200, upTo(199, 200)}, {[]int64{200}, 199, upTo(199, 200)}, {[]int64{200}, 1000, upTo(1000, 200)}, {[]int64{2}, 1000, upTo(1000, 2)},
		{[]int64{3, 5}, 1000, []int64{1, 2, 4, 7}}, {[]int64{3, 5}, 7, []int64{1, 2, 4, 7}}, {[]int64{3, 5}, 6, []int64{1, 2, 4}}, {[]int64{6, 9, 20}, 50, []int64{1, 2, 3, 4, 5, 7, 8, 10, 11, 13, 14, 16, 17, 19, 22, 23, 25, 28, 31, 34, 37, 43}}, {[]int64{6, 9, 20}, 1000, []int64{1, 2, 3, 4, 5, 7, 8, 10, 11, 13, 14, 16, 17, 19, 22, 23, 25, 28, 31, 34, 37, 43}},
	} {
		got, code := impl.UnreachedSums(x.layers, x.until)
		same(t, fmt.Sprint("sums without builds of ", x.layers, " up to ", x.until), []any{got, code}, []any{x.want, int64(impl.OK)})
	}
}

// TestUnreachedSumsHaveNoBuild compares with the numbers of builds, and with the codes of the functions that return one.
func TestUnreachedSumsHaveNoBuild(t *testing.T) {
	var n numbers
	lists := goodLayers()
	for i := range int64(100) {
		lists = append(lists, layersOf(&n, 1+i%8, 1, []int64{12, 60, 200}[i%3]))
	}
	for _, layers := range lists {
		counts := countsOf(layers)
		until := []int64{1000, 999, n.from(0, 1000)}[len(layers)%3]
		var want []int64
		for sum := range until + 1 {
			if counts[sum].Sign() == 0 {
				want = append(want, sum)
			}
		}
		got, code := impl.UnreachedSums(layers, until)
		same(t, fmt.Sprint("sums without builds of ", layers, " up to ", until), []any{got, code}, []any{want, int64(impl.OK)})
		for range 20 {
			sum := n.from(0, until)
			_, one := impl.FewestLayers(layers, sum)
			_, _, two := impl.CheapestBuild(layers, layers, sum)
			missing := int64(impl.OK)
			if slices.Contains(want, sum) {
				missing = impl.ErrNotFound
			}
			same(t, fmt.Sprint("codes of ", layers, " for ", sum), []any{one, two}, []any{missing, missing})
		}
	}
}

func TestCheapestBuild(t *testing.T) {
	for _, x := range []struct {
		layers, prices []int64
		sum            int64
		want           []int64
		price          int64
	}{
		{[]int64{4, 10, 12}, []int64{1, 3, 9}, 20, repeated(4, 5), 5}, {[]int64{4, 10, 12}, []int64{2, 3, 9}, 20, []int64{10, 10}, 6}, {[]int64{4, 10, 12}, []int64{2, 7, 9}, 20, repeated(4, 5), 10}, {[]int64{4, 10, 12}, []int64{2, 6, 5}, 20, []int64{12, 4, 4}, 9},
		{[]int64{4, 10, 12}, []int64{1, 3, 9}, 0, nil, 0}, {[]int64{4, 10, 12}, []int64{1000, 1000, 1000}, 0, nil, 0}, {[]int64{4, 10, 12}, []int64{1, 3, 9}, 6, noBuild, 0}, {[]int64{4, 10, 12}, []int64{0, 0, 0}, 11, noBuild, 0}, {[]int64{4, 10, 12}, []int64{0, 0, 0}, 999, noBuild, 0}, {[]int64{200}, []int64{7}, 999, noBuild, 0}, {[]int64{200}, []int64{7}, 199, noBuild, 0},
		{[]int64{1}, []int64{1000}, 1000, repeated(1, 1000), 1000000}, {[]int64{1}, []int64{0}, 1000, repeated(1, 1000), 0}, {[]int64{200}, []int64{1000}, 1000, repeated(200, 5), 5000}, {[]int64{200}, []int64{0}, 1000, repeated(200, 5), 0},
		// The price decides before the number of layers, also a price of 0.
		{[]int64{1, 200}, []int64{1, 201}, 1000, repeated(1, 1000), 1000}, {[]int64{1, 200}, []int64{1, 200}, 1000, repeated(200, 5), 1000}, {[]int64{1, 200}, []int64{1, 199}, 1000, repeated(200, 5), 995}, {[]int64{1, 200}, []int64{0, 1}, 1000, repeated(1, 1000), 0}, {[]int64{1, 200}, []int64{0, 0}, 1000, repeated(200, 5), 0}, {[]int64{1, 200}, []int64{1, 0}, 1000, repeated(200, 5), 0}, {[]int64{1, 200}, []int64{5, 1000}, 999, append(repeated(200, 4), repeated(1, 199)...), 4995}, {[]int64{1, 200}, []int64{4, 1000}, 999, repeated(1, 999), 3996}, {[]int64{2, 3}, []int64{0, 1}, 9, []int64{3, 2, 2, 2}, 1},
		// Of equal prices the fewest layers, and of these the greatest ones.
		{[]int64{1, 2}, []int64{1, 2}, 4, []int64{2, 2}, 4}, {[]int64{1, 2, 3}, []int64{1, 2, 3}, 4, []int64{3, 1}, 4}, {[]int64{1, 2, 3, 4}, []int64{1, 2, 3, 5}, 4, []int64{3, 1}, 4}, {[]int64{3, 4, 5, 6}, []int64{5, 5, 5, 5}, 9, []int64{6, 3}, 10}, {[]int64{3, 4, 5, 6}, []int64{5, 5, 5, 6}, 9, []int64{5, 4}, 10}, {[]int64{3, 4, 5, 6}, []int64{0, 0, 0, 0}, 9, []int64{6, 3}, 0}, {[]int64{3, 4, 5, 6}, []int64{0, 1, 1, 1}, 9, []int64{3, 3, 3}, 0}, {[]int64{3, 4, 5, 6}, []int64{0, 1, 1, 0}, 9, []int64{6, 3}, 0}, {[]int64{1, 5, 6, 9}, []int64{1, 5, 6, 9}, 11, []int64{6, 5}, 11}, {[]int64{1, 5, 6, 9}, []int64{1, 6, 6, 9}, 11, []int64{9, 1, 1}, 11}, {[]int64{5, 6, 7, 8, 9}, []int64{7, 7, 7, 7, 7}, 21, []int64{9, 7, 5}, 21}, {[]int64{5, 6, 7, 8, 9}, []int64{7, 6, 7, 6, 8}, 21, []int64{8, 8, 5}, 19},
		{[]int64{1, 2, 3, 4, 5, 6, 7, 8}, []int64{1000, 1000, 1000, 1000, 1000, 1000, 1000, 1000}, 1000, repeated(8, 125), 125000}, {[]int64{1, 2, 3, 4, 5, 6, 7, 8}, []int64{1, 2, 3, 4, 5, 6, 7, 8}, 999, append(repeated(8, 124), 7), 999}, {[]int64{1, 2, 3, 4, 5, 6, 7, 8}, []int64{0, 0, 0, 0, 0, 0, 0, 1}, 1000, append(repeated(7, 142), 6), 0},
	} {
		want := built(x.want, impl.ErrNotFound)
		build, price, code := impl.CheapestBuild(x.layers, x.prices, x.sum)
		same(t, fmt.Sprint("cheapest build of ", x.layers, " for ", x.prices, " with the sum ", x.sum), []any{build, price, code}, []any{want[0], x.price, want[1]})
	}
}

// TestCheapestBuildsAreCheapest compares with all builds there are; prices are few, so that many builds have equal ones.
func TestCheapestBuildsAreCheapest(t *testing.T) {
	var n numbers
	var none, dear int
	for i := range int64(3000) {
		layers, sum, all := fewBuilds(&n, i)
		prices := lengthsOf(&n, int64(len(layers)), 0, []int64{0, 1, 2, 5, 1000}[i/24%5])
		if i%4 == 0 {
			for k, x := range layers {
				prices[k] = x + n.from(0, 1)
			}
		}
		want := built(firstOfAll(layers, prices, all, sum), impl.ErrNotFound)
		least := int64(0)
		if want[1] == int64(impl.OK) {
			least = priceOf(layers, prices, want[0].([]int64))
		} else {
			none++
		}
		name := fmt.Sprint("cheapest build of ", layers, " for ", prices, " with the sum ", sum)
		build, price, code := impl.CheapestBuild(layers, prices, sum)
		same(t, name, []any{build, price, code}, []any{want[0], least, want[1]})
		if fewest, _ := impl.FewestLayers(layers, sum); len(fewest) < len(build) {
			dear++
		}
	}
	if none < 300 || dear < 100 {
		t.Errorf("%d sums have no build, %d have a cheapest one with more layers than others", none, dear)
	}
}

// badBuildSums are sums, ends and limits that are not in their range.
var badBuildSums = []int64{-1, 1001, -1000, 2000, 1 << 32, -1 << 32, math.MinInt64, math.MinInt64 + 1, math.MaxInt64 - 1, math.MaxInt64}

// checkBuildCodes calls all functions of layers and a sum with arguments for which they return a code.
func checkBuildCodes(t *testing.T, layers, prices []int64, sum, code int64) {
	t.Helper()
	name := fmt.Sprint(layers, " with the sum ", sum)
	build, one := impl.FewestLayers(layers, sum)
	same(t, "fewest of "+name, []any{build, one}, []any{[]int64(nil), code})
	build, two := impl.FewestWithin(layers, sum, sum)
	same(t, "within of "+name, []any{build, two}, []any{[]int64(nil), code})
	n, three := impl.CountBuilds(layers, sum)
	same(t, "number of "+name, []any{n, three}, []any{int64(0), code})
	build, four := impl.UnreachedSums(layers, sum)
	same(t, "sums of "+name, []any{build, four}, []any{[]int64(nil), code})
	build, price, five := impl.CheapestBuild(layers, prices, sum)
	same(t, fmt.Sprint("cheapest for ", prices, " of "+name), []any{build, price, five}, []any{[]int64(nil), int64(0), code})
}

// TestErrorsOfBuilds has each invalid argument alone and together with others; layers come before sums, and sums before those that have no build.
func TestErrorsOfBuilds(t *testing.T) {
	for _, layers := range badLayers() {
		for _, sum := range append([]int64{0, 1, 20, 1000}, badBuildSums...) {
			checkBuildCodes(t, layers, make([]int64, len(layers)), sum, impl.ErrInvalid)
			checkBuildCodes(t, layers, []int64{-1}, sum, impl.ErrInvalid)
			checkBuildCodes(t, layers, nil, sum, impl.ErrInvalid)
			checkBuildCodes(t, layers, layers, sum, impl.ErrInvalid)
		}
	}
	for _, layers := range goodLayers() {
		for _, sum := range badBuildSums {
			checkBuildCodes(t, layers, make([]int64, len(layers)), sum, impl.ErrRange)
			checkBuildCodes(t, layers, []int64{-1}, sum, impl.ErrRange)
		}
	}
}

func TestErrorsOfFewestWithin(t *testing.T) {
	ends := [][2]int64{{1, 0}, {22, 21}, {3, 2}, {1000, 999}, {1000, 0}, {1001, 1000}, {-1, 0}, {-1, -1}, {-1, 22}, {-1, 1000}, {0, 1001}, {20, 1001}, {1000, 1001}, {1001, 1001}, {0, -1}, {-2, -1}, {20, math.MaxInt64}, {0, math.MaxInt64}, {math.MinInt64, 20}, {math.MinInt64, math.MaxInt64}, {math.MaxInt64, math.MinInt64}, {math.MaxInt64, 20}, {20, math.MinInt64}, {math.MinInt64, math.MinInt64}}
	for _, x := range ends {
		for _, layers := range goodLayers() {
			build, code := impl.FewestWithin(layers, x[0], x[1])
			same(t, fmt.Sprint("first build of ", layers, " from ", x[0], " to ", x[1]), []any{build, code}, []any{[]int64(nil), int64(impl.ErrRange)})
		}
		for _, layers := range badLayers() {
			build, code := impl.FewestWithin(layers, x[0], x[1])
			same(t, fmt.Sprint("first build of ", layers, " from ", x[0], " to ", x[1]), []any{build, code}, []any{[]int64(nil), int64(impl.ErrInvalid)})
		}
	}
}

// TestErrorsOfPrices has prices that are too few, too many, or not in their range, also where there is no build, or one without layers.
func TestErrorsOfPrices(t *testing.T) {
	layers := []int64{4, 10, 12}
	bad := [][]int64{nil, {}, {1}, {1, 3}, {1, 3, 9, 9}, make([]int64, 8), make([]int64, 1000)}
	for _, x := range []int64{-1, 1001, -1000, 1 << 32, math.MinInt64, math.MaxInt64} {
		bad = append(bad, []int64{x, 3, 9}, []int64{1, x, 9}, []int64{1, 3, x}, []int64{x, x, x})
	}
	for _, prices := range bad {
		for _, sum := range append([]int64{0, 5, 20, 1000}, badBuildSums...) {
			build, price, code := impl.CheapestBuild(layers, prices, sum)
			same(t, fmt.Sprint("cheapest build for ", prices, " with the sum ", sum), []any{build, price, code}, []any{[]int64(nil), int64(0), int64(impl.ErrRange)})
		}
	}
	for k := range 3 {
		for _, x := range []int64{0, 1, 999, 1000} {
			prices := []int64{500, 500, 500}
			prices[k] = x
			build, price, code := impl.CheapestBuild(layers, prices, layers[k])
			want := []any{layers[k : k+1], x, int64(impl.OK)}
			same(t, fmt.Sprint("cheapest build for ", prices, " with the sum ", layers[k]), []any{build, price, code}, want)
		}
	}
}
