package tests

import (
	"fmt"
	"math"
	"slices"
	"testing"

	"loop.example/g01043/impl"
)

func TestLimitsOfAllowances(t *testing.T) {
	same(t, "MaxStrips", impl.MaxStrips, 12)
	same(t, "MaxStrip", impl.MaxStrip, 5000)
	same(t, "MaxAllow", impl.MaxAllow, 200)
	same(t, "MaxNotches", impl.MaxNotches, 10)
}

// TestExampleOfAllowances is the example of the chapter.
func TestExampleOfAllowances(t *testing.T) {
	x, ok := impl.ReadStrip("400+30(12,8)")
	same(t, "edge", []any{x, ok}, []any{strip(400, 30, 12, 8), true})
	lengths, code := impl.CutLengths([]impl.Strip{x, x, x})
	same(t, "cut lengths", []any{lengths, code}, []any{[]int64{420, 420, 420}, int64(impl.OK)})
}

// goodStrips are edges at the ends of all ranges; six of them have no allowance.
func goodStrips() []impl.Strip {
	return strips("1+0(0,0) 5000+200(200,200) 400+30(12,8) 300+0(5,5) 500+10(0,0) 1+200(0,0) 1+0(200,0) 1+0(0,200) 5000+0(0,0) 2500+1(1,1) 400+0(200,200) 7+1(0,200)")
}

// badAllows are no numbers that are added to an edge.
var badAllows = []int64{-1, 201, -2, 202, -200, 5000, 1 << 32, -1 << 32, 1<<32 + 1, math.MinInt64, math.MinInt64 + 1, math.MaxInt64 - 1, math.MaxInt64}

// badStripLengths are no lengths of edges that have allowances.
var badStripLengths = []int64{0, -1, 5001, -2, 5002, -400, 1 << 32, -1 << 32, 1<<32 + 1, math.MinInt64, math.MinInt64 + 1, math.MaxInt64 - 1, math.MaxInt64}

// badStrips returns edges with one number each that is out of its range, also without an allowance, and the zero one.
func badStrips() []impl.Strip {
	list := []impl.Strip{{}, strip(0, 1, 1, 1)}
	for _, good := range strips("400+30(12,8) 400+0(12,8) 1+0(0,0) 5000+200(200,200)") {
		for k := range 4 {
			bad := badAllows
			if k == 0 {
				bad = badStripLengths
			}
			for _, number := range bad {
				x := good
				*fieldsOf(&x)[k] = number
				list = append(list, x)
			}
		}
	}
	return list
}

// goodStripLists are valid lists with the fewest and the most edges, and with all edges of goodStrips.
func goodStripLists() [][]impl.Strip {
	all := [][]impl.Strip{goodStrips(), goodStrips()[:11], strips("400+30(12,8) 300+0(5,5) 500+10(0,0)")}
	for _, x := range goodStrips() {
		all = append(all, slices.Repeat([]impl.Strip{x}, 3), slices.Repeat([]impl.Strip{x}, 4), slices.Repeat([]impl.Strip{x}, 12))
	}
	return all
}

// badStripLists returns lists with one thing each that is not valid.
func badStripLists() [][]impl.Strip {
	all := [][]impl.Strip{nil, {}}
	for _, x := range goodStrips() {
		for _, count := range []int{1, 2, 13, 14, 1000} {
			all = append(all, slices.Repeat([]impl.Strip{x}, count))
		}
	}
	a, b := goodStrips()[2], goodStrips()[3]
	for _, x := range badStrips() {
		all = append(all, []impl.Strip{x, a, b}, []impl.Strip{a, x, b}, []impl.Strip{a, b, x}, []impl.Strip{x, x, x}, append(goodStrips()[:11], x))
	}
	return all
}

func TestValidStrips(t *testing.T) {
	for _, list := range goodStripLists() {
		same(t, fmt.Sprint("valid ", list), impl.ValidStrips(list), true)
	}
	for _, list := range badStripLists() {
		same(t, fmt.Sprint("valid ", list), impl.ValidStrips(list), false)
	}
}

func TestSameStrips(t *testing.T) {
	lists := append(goodStripLists(), badStripLists()...)
	var texts []string
	for _, list := range lists {
		texts = append(texts, fmt.Sprint(list))
		same(t, "a list and itself", impl.SameStrips(list, slices.Clone(list)), true)
	}
	for i, a := range lists {
		for j, b := range lists {
			if impl.SameStrips(a, b) != (texts[i] == texts[j]) {
				t.Errorf("%s and %s: got %v", texts[i], texts[j], impl.SameStrips(a, b))
			}
		}
	}
	list := goodStrips()
	for i := range list {
		for k := range 4 {
			other := goodStrips()
			*fieldsOf(&other[i])[k]++
			same(t, fmt.Sprint("another number ", k, " of the edge ", i), []any{impl.SameStrips(list, other), impl.SameStrips(other, list)}, []any{false, false})
		}
		same(t, "fewer edges", []any{impl.SameStrips(list, list[:i]), impl.SameStrips(list[:i], list), impl.SameStrips(list, list[i+1:])}, []any{false, false, false})
	}
	same(t, "another order", impl.SameStrips(strips("1+2(3,4) 5+6(7,8)"), strips("5+6(7,8) 1+2(3,4)")), false)
	same(t, "no edges", []any{impl.SameStrips(nil, nil), impl.SameStrips(nil, []impl.Strip{}), impl.SameStrips([]impl.Strip{}, nil), impl.SameStrips(nil, make([]impl.Strip, 1))}, []any{true, true, true, false})
}

// checkStrips checks all functions that only need a list of edges.
func checkStrips(t *testing.T, list []impl.Strip, lengths []int64, area, code int64) {
	t.Helper()
	name := fmt.Sprint(" of ", list)
	got, gotten := impl.CutLengths(list)
	same(t, "cut lengths"+name, []any{got, gotten}, []any{lengths, code})
	var round int64
	if code == impl.OK {
		for _, x := range list {
			round += x.Length
		}
	}
	around, cut, gotten := impl.RoundStrips(list)
	same(t, "sums"+name, []any{around, cut, gotten}, []any{round, totalOf(lengths), code})
	twice, gotten := impl.AllowArea(list)
	same(t, "area"+name, []any{twice, gotten}, []any{area, code})
}

func TestCutLengthsAndAreas(t *testing.T) {
	for _, x := range []struct {
		list    string
		lengths []int64
		area    int64
	}{
		{"400+30(12,8) 300+0(5,5) 500+10(0,0)", []int64{420, 300, 500}, 34600},
		{"400+0(12,8) 300+20(5,5) 500+0(1,0)", []int64{400, 310, 500}, 12200},
		{"1+0(0,0) 1+0(0,0) 1+0(0,0)", []int64{1, 1, 1}, 0},
		{"1+1(0,0) 1+0(200,200) 1+1(200,200)", []int64{1, 1, 401}, 2 + 402},
		{"400+1(0,7) 400+1(7,0) 400+1(0,0) 400+1(3,4)", []int64{407, 407, 400, 407}, 807 + 807 + 800 + 807},
		{"400+0(0,7) 400+0(7,0) 400+0(0,0) 400+0(3,4)", []int64{400, 400, 400, 400}, 0},
		{"1+200(0,0) 5000+200(0,0) 5000+200(200,200) 5000+0(200,200)", []int64{1, 5000, 5400, 5000}, 400 + 2000000 + 2080000},
		{"5000+200(200,200) 5000+200(200,200) 5000+200(200,200) 5000+200(200,200) 5000+200(200,200) 5000+200(200,200) 5000+200(200,200) 5000+200(200,200) 5000+200(200,200) 5000+200(200,200) 5000+200(200,200) 5000+200(200,200)", repeated(5400, 12), 24960000},
	} {
		checkStrips(t, strips(x.list), x.lengths, x.area, impl.OK)
	}
	checkStrips(t, goodStrips(), []int64{1, 5400, 420, 300, 500, 1, 1, 1, 5000, 2502, 400, 207}, 2080000+24600+10000+400+5002+214, impl.OK)
}

// TestManyStrips takes the added strip apart: a rectangle on the whole edge, and a triangle at each corner, with twice the area of the strip together.
func TestManyStrips(t *testing.T) {
	var n numbers
	without := 0
	for i := range int64(3000) {
		list := stripsOf(&n, 3+i%10, []int64{3, 500, 5000}[i/10%3])
		var lengths []int64
		var area int64
		for _, x := range list {
			corners := x.Left + x.Right
			if x.Allow == 0 {
				without++
				corners = 0
			}
			lengths = append(lengths, x.Length+corners)
			area += 2*x.Length*x.Allow + corners*x.Allow
		}
		checkStrips(t, list, lengths, area, impl.OK)
	}
	if without < 1000 {
		t.Errorf("only %d edges are without an allowance", without)
	}
}

// TestEdgesWithoutAllowance has corners that grow or not: both are the same without an allowance, but for the edges themselves.
func TestEdgesWithoutAllowance(t *testing.T) {
	var n numbers
	for i := range int64(1000) {
		list := stripsOf(&n, 3+i%10, 5000)
		straight := slices.Clone(list)
		for k := range straight {
			if straight[k].Allow == 0 {
				straight[k].Left, straight[k].Right = 0, 0
			}
		}
		same(t, fmt.Sprint("results of ", list), sumsOf(list), sumsOf(straight))
		for k := range list {
			bare, code := impl.AddAllow(list, int64(k), 0)
			want := slices.Clone(list)
			want[k].Allow = 0
			same(t, "edges", []any{bare, code}, []any{want, int64(impl.OK)})
			lengths, _ := impl.CutLengths(bare)
			same(t, fmt.Sprint("cut length ", k, " of ", bare), lengths[k], list[k].Length)
			wide, _ := impl.AddAllow(bare, int64(k), 1)
			lengths, _ = impl.CutLengths(wide)
			same(t, fmt.Sprint("cut length ", k, " of ", wide), lengths[k], list[k].Length+list[k].Left+list[k].Right)
		}
	}
}

// sumsOf returns all that is told of a list of edges.
func sumsOf(list []impl.Strip) string {
	lengths, one := impl.CutLengths(list)
	around, cut, two := impl.RoundStrips(list)
	twice, three := impl.AllowArea(list)
	return fmt.Sprint(lengths, one, around, cut, two, twice, three)
}

func TestAddAllow(t *testing.T) {
	for _, list := range goodStripLists() {
		before := slices.Clone(list)
		for k := range list {
			for _, allow := range []int64{0, 1, 30, 199, 200, list[k].Allow} {
				want := slices.Clone(list)
				want[k] = strip(list[k].Length, allow, list[k].Left, list[k].Right)
				got, code := impl.AddAllow(list, int64(k), allow)
				same(t, fmt.Sprint(list, " with ", allow, " at ", k), []any{got, code}, []any{want, int64(impl.OK)})
				same(t, "edges before", list, before)
			}
		}
	}
}

func checkAllowCode(t *testing.T, list []impl.Strip, k, allow, want int64) {
	t.Helper()
	got, code := impl.AddAllow(list, k, allow)
	same(t, fmt.Sprint(list, " with ", allow, " at ", k), []any{got, code}, []any{[]impl.Strip(nil), want})
}

// TestErrorsOfAllowances has each argument alone and together with others that are wrong, too; a list that is not valid is found first.
func TestErrorsOfAllowances(t *testing.T) {
	for _, list := range badStripLists() {
		checkStrips(t, list, nil, 0, impl.ErrInvalid)
		checkAllowCode(t, list, 0, 20, impl.ErrInvalid)
		for i, allow := range badAllows {
			checkAllowCode(t, list, 0, allow, impl.ErrInvalid)
			checkAllowCode(t, list, badStripLengths[i], 20, impl.ErrInvalid)
			checkAllowCode(t, list, -1, allow, impl.ErrInvalid)
		}
	}
	for _, list := range goodStripLists() {
		count := int64(len(list))
		strange := []int64{-1, count, count + 1, -count, 13, 1 << 32, 1<<32 + 1, -1 << 32, math.MinInt64, math.MinInt64 + 1, math.MaxInt64 - 1, math.MaxInt64}
		for i, k := range strange {
			checkAllowCode(t, list, k, 0, impl.ErrRange)
			checkAllowCode(t, list, k, 200, impl.ErrRange)
			checkAllowCode(t, list, k, badAllows[i], impl.ErrRange)
		}
		for _, allow := range badAllows {
			checkAllowCode(t, list, 0, allow, impl.ErrRange)
			checkAllowCode(t, list, count-1, allow, impl.ErrRange)
		}
	}
}
