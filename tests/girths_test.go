package tests

import (
	"fmt"
	"math"
	"slices"
	"testing"

	"loop.example/g01043/impl"
)

// girths returns a last and a foot with these girths at the ball, at the instep and at the heel.
func girths(made, measured [3]int64) (impl.Last, impl.Foot) {
	return last("a", 2600, made[0], made[1], made[2], 200), foot(2500, measured[0], measured[1], measured[2])
}

// needing returns a last and a foot for which the girths of the last need so much.
func needing(ball, instep, heel int64) (impl.Last, impl.Foot) {
	return girths([3]int64{2000, 2100, 2200}, [3]int64{2000 + ball, 2100 + instep, 2200 + heel})
}

func TestNeedOf(t *testing.T) {
	for _, x := range []struct {
		made, measured [3]int64
		want           []int64
	}{
		{[3]int64{2390, 2500, 3200}, [3]int64{2400, 2510, 3200}, []int64{10, 10, 0}},
		{[3]int64{2400, 2500, 3200}, [3]int64{2400, 2500, 3200}, []int64{0, 0, 0}},
		{[3]int64{2400, 2500, 3200}, [3]int64{2399, 2499, 3199}, []int64{0, 0, 0}},
		{[3]int64{2400, 2500, 3200}, [3]int64{2401, 2501, 3201}, []int64{1, 1, 1}},
		{[3]int64{2400, 2500, 3200}, [3]int64{2401, 2498, 3203}, []int64{1, 0, 3}},
		{[3]int64{2400, 2500, 3200}, [3]int64{2398, 2507, 3100}, []int64{0, 7, 0}},
		{[3]int64{500, 500, 500}, [3]int64{5000, 5000, 5000}, []int64{4500, 4500, 4500}},
		{[3]int64{5000, 5000, 5000}, [3]int64{500, 500, 500}, []int64{0, 0, 0}},
		{[3]int64{500, 5000, 500}, [3]int64{5000, 500, 501}, []int64{4500, 0, 1}},
		{[3]int64{1000, 2000, 3000}, [3]int64{3000, 2000, 1000}, []int64{2000, 0, 0}},
	} {
		made, f := girths(x.made, x.measured)
		for _, length := range []int64{500, 2500, 2600, 2700, 5000} {
			made.Length, f.Length = length, 5500-length
			need, code := impl.NeedOf(made, f)
			same(t, fmt.Sprint("need of ", made, " for ", f), []any{need, code}, []any{x.want, int64(impl.OK)})
		}
	}
}

func TestBuildLast(t *testing.T) {
	x := last("a", 2600, 2390, 2500, 3200, 200)
	for _, y := range []struct {
		layers []int64
		sum    int64
	}{
		{nil, 0}, {[]int64{}, 0}, {[]int64{1}, 1}, {[]int64{200}, 200}, {[]int64{10}, 10}, {[]int64{12, 10}, 22}, {[]int64{10, 12}, 22}, {[]int64{10, 10}, 20}, {[]int64{4, 12, 4, 10}, 30}, {[]int64{200, 1, 200}, 401},
		{repeated(1, 100), 100}, {repeated(18, 100), 1800}, {repeated(200, 9), 1800}, {append(repeated(1, 99), 200), 299}, {append([]int64{200}, repeated(1, 99)...), 299}, {[]int64{1, 2, 3, 4, 5, 6, 7, 8, 9}, 45}, {[]int64{9, 8, 7, 6, 5, 4, 3, 2, 1}, 45},
	} {
		for girth := int64(1); girth <= 3; girth++ {
			want := x
			*measuresOfLast(&want)[girth] += y.sum
			got, code := impl.BuildLast(x, girth, y.layers)
			same(t, fmt.Sprint(x, " with ", y.layers, " at the girth ", girth), []any{got, code}, []any{want, int64(impl.OK)})
		}
	}
}

// TestBuiltLastsThatAreNotValid has each girth just at its limit, and beyond it.
func TestBuiltLastsThatAreNotValid(t *testing.T) {
	for _, y := range []struct {
		girth  int64
		layers []int64
		full   bool
	}{
		{5000, nil, false}, {5000, []int64{1}, true}, {4999, []int64{1}, false}, {4999, []int64{1, 1}, true}, {4999, []int64{2}, true}, {4800, []int64{200}, false}, {4801, []int64{200}, true}, {4900, repeated(1, 100), false}, {4901, repeated(1, 100), true}, {500, repeated(45, 100), false}, {501, repeated(45, 100), true}, {500, append(repeated(45, 99), 46), true}, {500, repeated(200, 100), true}, {5000, repeated(200, 100), true}, {500, append(repeated(200, 22), 100), false}, {500, append([]int64{101}, repeated(200, 22)...), true},
	} {
		for girth := int64(1); girth <= 3; girth++ {
			x := last("a", 5000, 5000, 5000, 5000, 1000)
			*measuresOfLast(&x)[girth] = y.girth
			want := []any{last("a", 5000, 5000, 5000, 5000, 1000), int64(impl.OK)}
			if y.full {
				want = []any{noLast, int64(impl.ErrFull)}
			} else if sum := y.girth + totalOf(y.layers); sum != 5000 {
				t.Errorf("%d with %v is %d", y.girth, y.layers, sum)
			}
			got, code := impl.BuildLast(x, girth, y.layers)
			same(t, fmt.Sprint(x, " with ", y.layers, " at the girth ", girth), []any{got, code}, want)
		}
	}
}

// badAdded returns lists that cannot be added to a last.
func badAdded() [][]int64 {
	list := [][]int64{repeated(1, 101), repeated(10, 101), repeated(200, 101), repeated(1, 10000), repeated(0, 100), repeated(0, 101)}
	for _, x := range []int64{0, -1, 201, -200, 1 << 32, math.MinInt64, math.MaxInt64} {
		end := repeated(1, 100)
		end[99] = x
		list = append(list, []int64{x}, []int64{x, 10}, []int64{10, x}, []int64{10, x, 10}, []int64{x, x}, end)
	}
	return list
}

// badGirths are numbers of no girth.
var badGirths = []int64{0, 4, -1, 5, -3, 1 << 32, 1<<32 + 1, -1 << 32, math.MinInt64, math.MinInt64 + 1, math.MaxInt64 - 1, math.MaxInt64}

// TestErrorsOfBuildLast has each invalid argument alone and together with others; lasts come before girths and layers, and these before lasts that would not be valid.
func TestErrorsOfBuildLast(t *testing.T) {
	for _, x := range append(goodLasts(), badLasts()...) {
		want := int64(impl.ErrInvalid)
		if impl.ValidLasts([]impl.Last{x}) {
			want = impl.ErrRange
		}
		for girth := int64(1); girth <= 3; girth++ {
			for _, layers := range badAdded() {
				got, code := impl.BuildLast(x, girth, layers)
				same(t, fmt.Sprint(x, " with ", layers, " at the girth ", girth), []any{got, code}, []any{noLast, want})
			}
			if want == impl.ErrInvalid {
				got, code := impl.BuildLast(x, girth, []int64{10})
				same(t, fmt.Sprint(x, " at the girth ", girth), []any{got, code}, []any{noLast, want})
			}
		}
		for _, girth := range badGirths {
			for _, layers := range append(badAdded(), nil, []int64{10}, repeated(200, 100)) {
				got, code := impl.BuildLast(x, girth, layers)
				same(t, fmt.Sprint(x, " with ", layers, " at the girth ", girth), []any{got, code}, []any{noLast, want})
			}
		}
	}
}

func TestBuildUpFor(t *testing.T) {
	some := []int64{4, 10, 12}
	for _, x := range []struct {
		needs  [3]int64
		layers []int64
		most   int64
		want   [][]int64
	}{
		{[3]int64{10, 10, 0}, some, 0, [][]int64{{10}, {10}, nil}}, {[3]int64{10, 10, -5}, some, 1, [][]int64{{10}, {10}, nil}}, {[3]int64{10, 10, 10}, some, 2, [][]int64{{12}, {12}, {12}}}, {[3]int64{12, 20, 21}, some, 1, [][]int64{{12}, {10, 10}, {12, 10}}}, {[3]int64{3, 1, 2}, some, 3, [][]int64{{4}, {4}, {4}}},
		// What needs nothing gets nothing, whatever else the other girths get.
		{[3]int64{0, 0, 0}, some, 0, [][]int64{nil, nil, nil}}, {[3]int64{0, 0, 0}, some, 1000, [][]int64{nil, nil, nil}}, {[3]int64{-1, -100, -1000}, some, 12, [][]int64{nil, nil, nil}}, {[3]int64{0, 24, -1}, some, 20, [][]int64{nil, {12, 12}, nil}}, {[3]int64{-1, 0, 1}, some, 999, [][]int64{nil, nil, {12}}}, {[3]int64{1, -1, 0}, some, 3, [][]int64{{4}, nil, nil}},
		// A need and most of just MaxBuild together.
		{[3]int64{1000, 0, 0}, []int64{200}, 0, [][]int64{repeated(200, 5), nil, nil}}, {[3]int64{0, 1000, 1000}, []int64{1}, 0, [][]int64{nil, repeated(1, 1000), repeated(1, 1000)}}, {[3]int64{1, 1, 1}, []int64{200}, 999, [][]int64{{200}, {200}, {200}}}, {[3]int64{0, 0, 1}, []int64{1}, 999, [][]int64{nil, nil, {1}}}, {[3]int64{801, 800, 601}, []int64{200}, 199, [][]int64{repeated(200, 5), repeated(200, 4), repeated(200, 4)}}, {[3]int64{500, 499, 1}, []int64{199, 200}, 500, [][]int64{{200, 200, 200}, {200, 200, 200}, {200}}}, {[3]int64{988, 994, 1}, []int64{7}, 6, [][]int64{repeated(7, 142), repeated(7, 142), {7}}},
		// The first builds are those of each girth for itself.
		{[3]int64{15, 16, 13}, []int64{1, 12, 14}, 9, [][]int64{{14, 1}, {12, 12}, {14}}}, {[3]int64{201, 301, 151}, []int64{150, 200}, 99, [][]int64{{150, 150}, {200, 200}, {200}}}, {[3]int64{11, 5, 6}, []int64{1, 5, 6, 9}, 0, [][]int64{{6, 5}, {5}, {6}}},
	} {
		made, f := needing(x.needs[0], x.needs[1], x.needs[2])
		builds, code := impl.BuildUpFor(made, f, x.layers, x.most)
		same(t, fmt.Sprint(x.layers, " for ", x.needs, " with at most ", x.most), []any{builds, code}, []any{x.want, int64(impl.OK)})
	}
}

// TestGirthsWithoutBuilds has needs that are too great, which are found before those without a build, at whichever girths they are.
func TestGirthsWithoutBuilds(t *testing.T) {
	some := []int64{4, 10, 12}
	for _, x := range []struct {
		needs  [3]int64
		layers []int64
		most   int64
		code   int64
	}{
		{[3]int64{1, 0, 0}, some, 0, impl.ErrTight}, {[3]int64{1, 0, 0}, some, 2, impl.ErrTight}, {[3]int64{10, 10, 11}, some, 0, impl.ErrTight}, {[3]int64{5, 4, 4}, some, 2, impl.ErrTight}, {[3]int64{999, 1000, 1000}, some, 0, impl.ErrTight}, {[3]int64{1000, 0, 0}, []int64{7}, 0, impl.ErrTight}, {[3]int64{995, 0, 0}, []int64{7}, 5, impl.ErrTight}, {[3]int64{801, 0, 0}, []int64{200}, 198, impl.ErrTight}, {[3]int64{1, 1, 1}, []int64{200}, 198, impl.ErrTight}, {[3]int64{600, 800, 994}, []int64{199, 200}, 0, impl.ErrTight},
		{[3]int64{1001, 0, 0}, some, 0, impl.ErrFull}, {[3]int64{1001, 0, 0}, []int64{1}, 0, impl.ErrFull}, {[3]int64{1, 0, 0}, some, 1000, impl.ErrFull}, {[3]int64{1, 1, 1}, []int64{1}, 1000, impl.ErrFull}, {[3]int64{501, 0, -5}, []int64{1}, 500, impl.ErrFull}, {[3]int64{500, 400, 300}, []int64{1}, 501, impl.ErrFull}, {[3]int64{2000, 2000, 2000}, some, 1000, impl.ErrFull}, {[3]int64{2800, 0, 0}, some, 0, impl.ErrFull},
		{[3]int64{1001, 1, 0}, some, 0, impl.ErrFull}, {[3]int64{1, 0, 1001}, some, 0, impl.ErrFull}, {[3]int64{999, 3, 5}, some, 2, impl.ErrFull}, {[3]int64{995, 996, 0}, []int64{7}, 5, impl.ErrFull},
	} {
		needs := x.needs
		for i := range 6 {
			made, f := needing(needs[0], needs[1], needs[2])
			builds, code := impl.BuildUpFor(made, f, x.layers, x.most)
			same(t, fmt.Sprint(x.layers, " for ", needs, " with at most ", x.most), []any{builds, code}, []any{[][]int64(nil), x.code})
			k := i % 2
			needs[k], needs[k+1] = needs[k+1], needs[k]
		}
	}
	made, f := girths([3]int64{500, 500, 500}, [3]int64{5000, 5000, 5000})
	for _, most := range []int64{0, 1, 1000} {
		builds, code := impl.BuildUpFor(made, f, []int64{1}, most)
		same(t, fmt.Sprint("the greatest needs with at most ", most), []any{builds, code}, []any{[][]int64(nil), int64(impl.ErrFull)})
	}
}

// randomGirths returns a last and a foot with needs of at most high, and some girths that need nothing.
func randomGirths(n *numbers, high int64) (impl.Last, impl.Foot) {
	made, f := lastsOf(n, 1, 2000, 4000)[0], long(2500)
	for k := 1; k < 4; k++ {
		*measuresOf(&f)[k] = *measuresOfLast(&made)[k] + n.from(-high/4-1, high)
	}
	return made, f
}

// TestBuildUpsMakeGirthsGreatEnough is for promise 6: all girths get what they need, and at most so much more.
func TestBuildUpsMakeGirthsGreatEnough(t *testing.T) {
	var n numbers
	var full, tight, some int
	for i := range int64(3000) {
		made, f := randomGirths(&n, []int64{5, 30, 200, 900}[i%4])
		layers := layersOf(&n, 1+i/4%8, 1, []int64{12, 60, 200}[i/32%3])
		most := []int64{0, n.from(0, 5), n.from(0, 60), n.from(0, 1000)}[i/96%4]
		name := fmt.Sprint(layers, " for ", made, " and ", f, " with at most ", most)
		builds, code := impl.BuildUpFor(made, f, layers, most)
		same(t, name, []any{builds, code}, buildUp(made, f, layers, most))
		switch code {
		case impl.ErrFull:
			full++
			continue
		case impl.ErrTight:
			tight++
			continue
		}
		some++
		checkBuildUp(t, name, made, f, layers, builds, most)
	}
	if full < 100 || tight < 100 || some < 1000 {
		t.Errorf("%d needs are too great, %d have no build, %d have one", full, tight, some)
	}
}

// buildUp returns what is expected of BuildUpFor by the other functions.
func buildUp(made impl.Last, f impl.Foot, layers []int64, most int64) []any {
	needs, _ := impl.NeedOf(made, f)
	if slices.Max(needs)+most > 1000 {
		return []any{[][]int64(nil), int64(impl.ErrFull)}
	}
	var builds [][]int64
	for _, need := range needs {
		build, code := []int64(nil), int64(impl.OK)
		if need > 0 {
			build, code = impl.FewestWithin(layers, need, need+most)
		}
		if code != impl.OK {
			return []any{[][]int64(nil), int64(impl.ErrTight)}
		}
		builds = append(builds, build)
	}
	return []any{builds, int64(impl.OK)}
}

// checkBuildUp adds all layers to the last, one build after the other.
func checkBuildUp(t *testing.T, name string, made impl.Last, f impl.Foot, layers []int64, builds [][]int64, most int64) {
	t.Helper()
	before := made
	for k, build := range builds {
		checkBuild(t, name, layers, build)
		old, wanted := *measuresOfLast(&before)[k+1], *measuresOf(&f)[k+1]
		for part := range slices.Chunk(build, 100) {
			var code int64
			made, code = impl.BuildLast(made, int64(k)+1, part)
			same(t, name, code, impl.OK)
		}
		girth := *measuresOfLast(&made)[k+1]
		if girth < wanted || girth > max(old, wanted+most) || old >= wanted && girth != old {
			t.Errorf("%s: the girth %d becomes %d", name, k+1, girth)
		}
	}
	need, code := impl.NeedOf(made, f)
	same(t, name+" still needs", []any{need, code}, []any{[]int64{0, 0, 0}, int64(impl.OK)})
	same(t, name+" without girths", []any{made.Name, made.Length, made.Pitch}, []any{before.Name, before.Length, before.Pitch})
}

// checkGirthCodes calls both functions of a last and a foot with arguments for which they return a code.
func checkGirthCodes(t *testing.T, made impl.Last, f impl.Foot, layers []int64, most, need, code int64) {
	t.Helper()
	name := fmt.Sprint(layers, " for ", made, " and ", f, " with at most ", most)
	if need != impl.OK {
		needs, got := impl.NeedOf(made, f)
		same(t, "need of "+name, []any{needs, got}, []any{[]int64(nil), need})
	}
	builds, got := impl.BuildUpFor(made, f, layers, most)
	same(t, name, []any{builds, got}, []any{[][]int64(nil), code})
}

// TestErrorsOfGirths has each invalid argument alone and together with others; most comes behind lasts, feet and layers, and before needs that are too great.
func TestErrorsOfGirths(t *testing.T) {
	made, f := needing(10, 20, 0)
	small, large := girths([3]int64{500, 500, 500}, [3]int64{5000, 5000, 5000})
	some := []int64{4, 10, 12}
	var badFeet []impl.Foot
	for k := range 4 {
		for _, x := range []int64{499, 5001, 0, -2500, math.MinInt64, math.MaxInt64} {
			bad := f
			*measuresOf(&bad)[k] = x
			badFeet = append(badFeet, bad)
		}
	}
	for _, most := range append([]int64{0, 2, 1000}, badBuildSums...) {
		for _, bad := range badLasts() {
			checkGirthCodes(t, bad, f, some, most, impl.ErrInvalid, impl.ErrInvalid)
			checkGirthCodes(t, bad, large, []int64{0}, most, impl.ErrInvalid, impl.ErrInvalid)
			checkGirthCodes(t, bad, impl.Foot{}, some, most, impl.ErrInvalid, impl.ErrInvalid)
		}
		for _, bad := range badFeet {
			checkGirthCodes(t, made, bad, some, most, impl.ErrInvalid, impl.ErrInvalid)
			checkGirthCodes(t, small, bad, nil, most, impl.ErrInvalid, impl.ErrInvalid)
			checkGirthCodes(t, noLast, bad, some, most, impl.ErrInvalid, impl.ErrInvalid)
		}
		for _, layers := range badLayers() {
			checkGirthCodes(t, made, f, layers, most, impl.OK, impl.ErrInvalid)
			checkGirthCodes(t, small, large, layers, most, impl.OK, impl.ErrInvalid)
			checkGirthCodes(t, made, foot(2500, 2000, 2000, 2000), layers, most, impl.OK, impl.ErrInvalid)
		}
	}
	for _, most := range badBuildSums {
		for _, layers := range goodLayers() {
			checkGirthCodes(t, made, f, layers, most, impl.OK, impl.ErrRange)
			checkGirthCodes(t, small, large, layers, most, impl.OK, impl.ErrRange)
			checkGirthCodes(t, made, foot(2500, 2000, 2000, 2000), layers, most, impl.OK, impl.ErrRange)
		}
	}
}
