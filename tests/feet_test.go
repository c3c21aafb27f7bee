package tests

import (
	"fmt"
	"math"
	"strings"
	"testing"

	"loop.example/g01043/impl"
)

func TestValidFoot(t *testing.T) {
	for _, f := range []impl.Foot{foot(500, 500, 500, 500), foot(5000, 5000, 5000, 5000), foot(2500, 2400, 2500, 3200), foot(500, 5000, 500, 5000)} {
		same(t, fmt.Sprint("is valid: ", f), impl.ValidFoot(f), true)
	}
	same(t, "zero foot", impl.ValidFoot(impl.Foot{}), false)
	for k := range 4 {
		for x, want := range map[int64]bool{500: true, 5000: true, 499: false, 5001: false, 0: false, -500: false, math.MinInt64: false, math.MaxInt64: false} {
			f := foot(2500, 2400, 2500, 3200)
			*measuresOf(&f)[k] = x
			same(t, fmt.Sprint("is valid: ", f), impl.ValidFoot(f), want)
		}
	}
}

func TestValidFeet(t *testing.T) {
	var n numbers
	same(t, "nil", impl.ValidFeet(nil), true)
	same(t, "no feet", impl.ValidFeet([]impl.Foot{}), true)
	for _, count := range []int64{1, 2, 29, 30} {
		list := feetOf(&n, count, 500, 5000)
		same(t, fmt.Sprint(count, " feet"), impl.ValidFeet(list), true)
		for i := range list {
			for k := range 4 {
				p := measuresOf(&list[i])[k]
				x := *p
				*p = 5001 - x/2500*4502 // 499 or 5001
				same(t, fmt.Sprint("foot ", i, " with ", *p), impl.ValidFeet(list), *p >= 500 && *p <= 5000)
				*p = x
			}
		}
	}
	same(t, "31 feet", impl.ValidFeet(feetOf(&n, 31, 500, 5000)), false)
	same(t, "1000 feet", impl.ValidFeet(feetOf(&n, 1000, 500, 5000)), false)
}

func TestMiddleFoot(t *testing.T) {
	a, b, c, d := foot(2500, 2400, 2600, 3200), foot(2510, 2390, 2600, 3100), foot(2490, 2410, 2500, 3300), foot(5000, 500, 2700, 3000)
	for _, x := range []struct {
		list []impl.Foot
		want impl.Foot
	}{
		{[]impl.Foot{a}, a},
		{[]impl.Foot{a, b}, foot(2500, 2390, 2600, 3100)},
		{[]impl.Foot{b, a}, foot(2500, 2390, 2600, 3100)},
		{[]impl.Foot{a, b, c}, foot(2500, 2400, 2600, 3200)},
		{[]impl.Foot{a, b, c, d}, foot(2500, 2390, 2600, 3100)},
		{[]impl.Foot{d, c, b, a}, foot(2500, 2390, 2600, 3100)},
		{[]impl.Foot{a, a, b, b}, foot(2500, 2390, 2600, 3100)},
		{longs(2500, 2520, 2510, 2900), long(2510)},
		{longs(5000, 500), long(500)},
		{longs(5000, 500, 5000), long(5000)},
		{longs(1000, 2000, 3000, 4000, 4500, 5000), long(3000)},
	} {
		got, code := impl.MiddleFoot(x.list)
		same(t, fmt.Sprint("middle of ", x.list), []any{got, code}, []any{x.want, int64(impl.OK)})
	}
}

// TestMiddleHasHalf is for promise 2: a measure of some foot, with at most half of the feet below it and at most half above it, and of two such measures the lower one.
func TestMiddleHasHalf(t *testing.T) {
	var n numbers
	for i := range int64(1200) {
		count := i%30 + 1
		list := feetOf(&n, count, 1000, 1000+n.from(0, 1)*n.from(0, 4000)+3)
		got, code := impl.MiddleFoot(list)
		same(t, "code", code, impl.OK)
		for k := range 4 {
			middle := *measuresOf(&got)[k]
			var below, equal, above int64
			for j := range list {
				switch x := *measuresOf(&list[j])[k]; {
				case x < middle:
					below++
				case x > middle:
					above++
				default:
					equal++
				}
			}
			if equal == 0 || 2*below > count || 2*above > count || 2*below == count {
				t.Errorf("measure %d of the middle of %v is %d: %d are less, %d are greater", k, list, middle, below, above)
			}
		}
	}
}

func TestMiddleOfAllOrders(t *testing.T) {
	list := []impl.Foot{foot(1000, 4000, 2000, 3000), foot(2000, 3000, 1000, 4000), foot(3000, 2000, 4000, 1000), foot(4000, 1000, 3000, 2000)}
	orders := 0
	for i := range 256 {
		var order []impl.Foot
		used := map[int]bool{}
		for _, j := range []int{i % 4, i / 4 % 4, i / 16 % 4, i / 64} {
			order, used[j] = append(order, list[j]), true
		}
		if len(used) < 4 {
			continue
		}
		orders++
		got, code := impl.MiddleFoot(order)
		same(t, fmt.Sprint("middle of ", order), []any{got, code}, []any{foot(2000, 2000, 2000, 2000), int64(0)})
	}
	same(t, "orders", orders, 24)
}

func TestFarFeetAndJoinFeet(t *testing.T) {
	list := longs(2500, 2520, 2510, 2900)
	high := []impl.Foot{foot(2500, 2500, 2500, 3000), foot(2500, 2500, 2500, 3000), foot(2500, 2500, 2511, 3000)}
	apart := []impl.Foot{foot(2500, 2500, 2500, 3000), foot(2520, 2400, 2500, 3000)}
	for _, x := range []struct {
		list   []impl.Foot
		most   int64
		far    []int64
		joined impl.Foot
		code   int64
	}{
		{list, 20, []int64{3}, long(2510), impl.OK},
		{list, 10, []int64{3}, long(2510), impl.OK},
		{list, 9, []int64{0, 1, 3}, long(2510), impl.OK},
		{list, 0, []int64{0, 1, 3}, long(2510), impl.OK},
		{list, 389, []int64{3}, long(2510), impl.OK},
		{list, 390, nil, long(2510), impl.OK},
		{list, 5000, nil, long(2510), impl.OK},
		{longs(2000, 2500, 3000, 2490), 10, []int64{0, 2}, long(2490), impl.OK},
		{longs(2000, 2500, 3000, 2490), 9, []int64{0, 1, 2}, long(2490), impl.OK},
		{longs(1000, 1000, 1400, 1410, 1420), 20, []int64{0, 1}, long(1410), impl.OK},
		{longs(1400, 2000, 2010, 1400), 100, []int64{1, 2}, long(1400), impl.OK},
		{longs(1400, 1500, 1600, 1605, 1606), 10, []int64{0, 1}, long(1605), impl.OK},
		{longs(500, 5000), 4499, []int64{1}, long(500), impl.OK},
		{longs(500, 5000), 4500, nil, long(500), impl.OK},
		{high, 10, []int64{2}, foot(2500, 2500, 2500, 3000), impl.OK},
		{high, 11, nil, foot(2500, 2500, 2500, 3000), impl.OK},
		{apart, 10, []int64{0, 1}, impl.Foot{}, impl.ErrClash},
		{apart, 20, []int64{0}, foot(2520, 2400, 2500, 3000), impl.OK},
		{apart, 100, nil, foot(2500, 2400, 2500, 3000), impl.OK},
		{apart[:1], 0, nil, apart[0], impl.OK},
	} {
		name := fmt.Sprint(" of ", x.list, " with ", x.most)
		far, code := impl.FarFeet(x.list, x.most)
		same(t, "far feet"+name, far, x.far)
		same(t, "code of the far feet"+name, code, impl.OK)
		joined, code := impl.JoinFeet(x.list, x.most)
		same(t, "joined feet"+name, joined, x.joined)
		same(t, "code of the joined feet"+name, code, x.code)
	}
}

// TestFarFeetInEachMeasure has a foot that differs from the others in one measure only, in both directions.
func TestFarFeetInEachMeasure(t *testing.T) {
	for k := range 4 {
		for _, off := range []int64{-7, 7} {
			f := foot(2000, 2000, 2000, 2000)
			*measuresOf(&f)[k] += off
			list := []impl.Foot{foot(2000, 2000, 2000, 2000), f, foot(2000, 2000, 2000, 2000)}
			for most, want := range map[int64][]int64{0: {1}, 6: {1}, 7: nil, 8: nil} {
				far, code := impl.FarFeet(list, most)
				same(t, fmt.Sprint("far feet of ", list, " with ", most), far, want)
				same(t, "code", code, impl.OK)
			}
		}
	}
}

// TestJoinFeetIsMiddleOfTheRest checks JoinFeet against FarFeet and MiddleFoot.
func TestJoinFeetIsMiddleOfTheRest(t *testing.T) {
	var n numbers
	clashes := 0
	for i := range int64(600) {
		list := feetOf(&n, i%30+1, 2000, 2100)
		most := n.from(0, 90)
		far, code := impl.FarFeet(list, most)
		same(t, "code", code, impl.OK)
		isFar := map[int64]bool{}
		for _, j := range far {
			isFar[j] = true
		}
		var near []impl.Foot
		for j, f := range list {
			if !isFar[int64(j)] {
				near = append(near, f)
			}
		}
		joined, code := impl.JoinFeet(list, most)
		if len(near) == 0 {
			clashes++
			same(t, "all are far", []any{joined, code}, []any{impl.Foot{}, int64(impl.ErrClash)})
			continue
		}
		middle, _ := impl.MiddleFoot(near)
		same(t, "joined", []any{joined, code}, []any{middle, int64(impl.OK)})
	}
	if clashes == 0 {
		t.Error("no list had only far feet")
	}
}

func TestLargerFootAndDifferenceOf(t *testing.T) {
	a, b := foot(2500, 2400, 2500, 3200), foot(2400, 2450, 2500, 3100)
	low, high := foot(500, 500, 500, 500), foot(5000, 5000, 5000, 5000)
	for _, x := range []struct {
		a, b, larger impl.Foot
		difference   []int64
	}{
		{a, b, foot(2500, 2450, 2500, 3200), []int64{-100, 50, 0, -100}},
		{b, a, foot(2500, 2450, 2500, 3200), []int64{100, -50, 0, 100}},
		{a, a, a, []int64{0, 0, 0, 0}},
		{low, high, high, []int64{4500, 4500, 4500, 4500}},
		{high, low, high, []int64{-4500, -4500, -4500, -4500}},
		{foot(1000, 2000, 3000, 4000), foot(1001, 1998, 3003, 3996), foot(1001, 2000, 3003, 4000), []int64{1, -2, 3, -4}},
	} {
		name := fmt.Sprint(" of ", x.a, " and ", x.b)
		larger, code := impl.LargerFoot(x.a, x.b)
		same(t, "larger foot"+name, []any{larger, code}, []any{x.larger, int64(impl.OK)})
		difference, code := impl.DifferenceOf(x.a, x.b)
		same(t, "difference"+name, []any{difference, code}, []any{x.difference, int64(impl.OK)})
	}
}

func TestLargerFootAndDifferenceOfInvalidFeet(t *testing.T) {
	good := foot(2500, 2400, 2500, 3200)
	for k := range 4 {
		for _, x := range []int64{499, 5001, math.MinInt64, math.MaxInt64} {
			bad := good
			*measuresOf(&bad)[k] = x
			for _, pair := range [][2]impl.Foot{{good, bad}, {bad, good}, {bad, bad}} {
				larger, code := impl.LargerFoot(pair[0], pair[1])
				same(t, fmt.Sprint("larger foot of ", pair), []any{larger, code}, []any{impl.Foot{}, int64(impl.ErrInvalid)})
				difference, code := impl.DifferenceOf(pair[0], pair[1])
				same(t, fmt.Sprint("difference of ", pair), difference, []int64{})
				same(t, fmt.Sprint("code of ", pair), code, impl.ErrInvalid)
			}
		}
	}
}

func TestSpreadOf(t *testing.T) {
	for _, x := range []struct {
		list []impl.Foot
		want impl.Foot
	}{
		{longs(2500, 2520, 2510, 2900), foot(400, 0, 0, 0)},
		{longs(2500), impl.Foot{}},
		{longs(500, 5000), foot(4500, 0, 0, 0)},
		{[]impl.Foot{foot(1000, 2000, 3000, 4000), foot(1003, 1998, 3000, 4007), foot(999, 2001, 3000, 3993)}, foot(4, 3, 0, 14)},
		{[]impl.Foot{foot(500, 5000, 500, 5000), foot(5000, 500, 5000, 500)}, foot(4500, 4500, 4500, 4500)},
	} {
		got, code := impl.SpreadOf(x.list)
		same(t, fmt.Sprint("spread of ", x.list), []any{got, code}, []any{x.want, int64(impl.OK)})
	}
}

func TestMostFeet(t *testing.T) {
	var list []impl.Foot
	for i := range int64(30) {
		list = append(list, foot(2000+i, 3000-i, 2500, 500+155*i))
	}
	middle, code := impl.MiddleFoot(list)
	same(t, "middle", []any{middle, code}, []any{foot(2014, 2985, 2500, 500+155*14), int64(impl.OK)})
	spread, code := impl.SpreadOf(list)
	same(t, "spread", []any{spread, code}, []any{foot(29, 29, 0, 155*29), int64(impl.OK)})
	far, code := impl.FarFeet(list, 155*14)
	same(t, "far", []any{far, code}, []any{[]int64{29}, int64(impl.OK)})
}

// TestErrorsOfFeet has, for each of the functions of lists, the errors in their order.
func TestErrorsOfFeet(t *testing.T) {
	var n numbers
	good := longs(2500, 2520)
	bad := longs(2500, 499)
	for _, x := range []struct {
		list []impl.Foot
		most int64
		code int64
	}{
		{nil, 0, impl.ErrNotFound},
		{[]impl.Foot{}, 5000, impl.ErrNotFound},
		{nil, -1, impl.ErrRange},
		{nil, 5001, impl.ErrRange},
		{good, -1, impl.ErrRange},
		{good, 5001, impl.ErrRange},
		{good, math.MinInt64, impl.ErrRange},
		{good, math.MaxInt64, impl.ErrRange},
		{[]impl.Foot{foot(2500, 2500, 2500, 3000), foot(2520, 2400, 2500, 3000)}, -1, impl.ErrRange},
		{bad, 0, impl.ErrInvalid},
		{bad, -1, impl.ErrInvalid},
		{[]impl.Foot{{}}, 5001, impl.ErrInvalid},
		{feetOf(&n, 31, 500, 5000), 10, impl.ErrInvalid},
		{feetOf(&n, 31, 500, 5000), -1, impl.ErrInvalid},
	} {
		name := fmt.Sprint(" of ", x.list, " with ", x.most)
		far, code := impl.FarFeet(x.list, x.most)
		same(t, "far feet"+name, far, []int64{})
		same(t, "code of the far feet"+name, code, x.code)
		joined, code := impl.JoinFeet(x.list, x.most)
		same(t, "joined feet"+name, []any{joined, code}, []any{impl.Foot{}, x.code})
		if x.code == impl.ErrRange {
			continue
		}
		middle, code := impl.MiddleFoot(x.list)
		same(t, "middle"+name, []any{middle, code}, []any{impl.Foot{}, x.code})
		spread, code := impl.SpreadOf(x.list)
		same(t, "spread"+name, []any{spread, code}, []any{impl.Foot{}, x.code})
	}
}

func TestFootText(t *testing.T) {
	for s, f := range map[string]impl.Foot{"2500/2400/2500/3200": foot(2500, 2400, 2500, 3200), "500/500/500/500": foot(500, 500, 500, 500), "5000/5000/5000/5000": foot(5000, 5000, 5000, 5000), "999/1000/1001/4321": foot(999, 1000, 1001, 4321)} {
		same(t, "text of "+s, impl.FootText(f), s)
		got, ok := impl.ReadFoot(s)
		same(t, "foot of "+s, []any{got, ok}, []any{f, true})
	}
	for _, f := range []impl.Foot{{}, foot(499, 500, 500, 500), foot(500, 5001, 500, 500), foot(500, 500, -500, 500), foot(500, 500, 500, math.MinInt64)} {
		same(t, fmt.Sprint("text of ", f), impl.FootText(f), "")
	}
}

func TestReadFootReadsFootText(t *testing.T) {
	var n numbers
	for _, f := range feetOf(&n, 500, 500, 5000) {
		got, ok := impl.ReadFoot(impl.FootText(f))
		same(t, "foot", []any{got, ok}, []any{f, true})
	}
}

func TestReadFootOfOthers(t *testing.T) {
	for _, s := range []string{"", "/", "///", "////", "2500", "2500/2400", "2500/2400/2500", "2500/2400/2500/", "/2400/2500/3200", "2500//2500/3200", "2500/2400/2500/3200/", "/2500/2400/2500/3200", "2500/2400/2500/3200/3200", "2500/2400/2500/3200/3200/1",
		"02500/2400/2500/3200", "2500/+2400/2500/3200", "2500/2400/-2500/3200", "2500/2400/2500/ 3200", "2500/2400/2500/3200 ", " 2500/2400/2500/3200", "2500 /2400/2500/3200", "2500/2400/2500/3200\n", "2500/2400/2500/3200\x00",
		"2500 2400 2500 3200", "2500,2400,2500,3200", "2500\\2400\\2500\\3200", "2500.0/2400/2500/3200", "2500/2400/2500/x", "٢٥٠٠/2400/2500/3200", "2500/2400/2500/3200\xff",
		"499/2400/2500/3200", "2500/5001/2500/3200", "2500/2400/0/3200", "2500/2400/2500/99999", "2500/2400/2500/9223372036854775808", "18446744073709554116/2400/2500/3200", strings.Repeat("2500/", 400) + "2500", strings.Repeat("/", 400)} {
		got, ok := impl.ReadFoot(s)
		same(t, fmt.Sprintf("foot of %q", s), []any{got, ok}, []any{impl.Foot{}, false})
	}
}
