package tests

import (
	"fmt"
	"math"
	"slices"
	"strings"
	"testing"

	"loop.example/g01043/impl"
)

// guard returns the list with capacity behind its end, filled with marks.
func guard[T any](list []T, mark T) []T {
	all := append(slices.Clone(list), mark, mark, mark)
	return all[:len(list)]
}

// feetCalls calls every function of chapter 2 and returns the results.
func feetCalls(days []int64, list []impl.Foot, most, day int64) []any {
	var a, b impl.Foot
	if len(list) > 0 {
		a, b = list[0], list[len(list)-1]
	}
	middle, one := impl.MiddleFoot(list)
	far, two := impl.FarFeet(list, most)
	joined, three := impl.JoinFeet(list, most)
	larger, four := impl.LargerFoot(a, b)
	difference, five := impl.DifferenceOf(a, b)
	spread, six := impl.SpreadOf(list)
	growth, seven := impl.GrowthOf(days, list)
	length, eight := impl.LengthOn(days, list, day)
	text := impl.FootText(a)
	read, ok := impl.ReadFoot(text)
	return []any{impl.ValidFoot(a), impl.ValidFeet(list), middle, one, plain(far), two, joined, three, larger, four, plain(difference), five, spread, six, growth, seven, length, eight, text, read, ok}
}

// hostileNumbers are numbers at both ends of ranges, just beyond them and far from them.
var hostileNumbers = []int64{math.MinInt64, math.MinInt64 + 1, -1 << 32, -5001, -1, 0, 1, 499, 500, 5000, 5001, 10000, 10001, 20000, 20001, 1 << 32, math.MaxInt64 - 1, math.MaxInt64}

// hostileSizes are the same for half sizes, widths and girths.
var hostileSizes = []int64{math.MinInt64, math.MinInt64 + 1, -1 << 32, -1, 0, 1, 11, 12, 119, 120, 121, 4999, 5000, 5001, 1 << 32, math.MaxInt64 - 1, math.MaxInt64}

// TestFeetArePure is for promise 1: valid and invalid arguments, called twice, with arguments that must stay as they are up to their capacity.
func TestFeetArePure(t *testing.T) {
	var n numbers
	for i := range int64(1000) {
		count := i % 33
		list := feetOf(&n, count, 490, 5010)
		days := daysOf(&n, count, 350)
		if i%2 == 0 {
			list = feetOf(&n, count, 500, 5000)
		}
		if i%7 == 0 && count > 0 {
			list[n.from(0, count-1)].Heel = hostileNumbers[n.from(0, 17)]
			days[n.from(0, count-1)] = hostileNumbers[n.from(0, 17)]
		}
		most, day := hostileNumbers[i%18], hostileNumbers[n.from(0, 17)]
		mark := foot(5000, 500, 5000, 500)
		list, days = guard(list, mark), guard(days, 77)
		feetBefore, daysBefore := slices.Clone(list[:count+3]), slices.Clone(days[:count+3])
		first := fmt.Sprintf("%#v", feetCalls(days, list, most, day))
		same(t, "feet", list[:count+3], feetBefore)
		same(t, "days", days[:count+3], daysBefore)
		same(t, "second call", fmt.Sprintf("%#v", feetCalls(days, list, most, day)), first)
		same(t, "call with copies", fmt.Sprintf("%#v", feetCalls(slices.Clip(daysBefore[:count]), slices.Clip(feetBefore[:count]), most, day)), first)
	}
}

// TestNilIsEmpty is for promise 1: equal results for nil slices and empty ones.
func TestNilIsEmpty(t *testing.T) {
	for _, most := range hostileNumbers {
		same(t, "results", fmt.Sprint(feetCalls([]int64{}, []impl.Foot{}, most, most)), fmt.Sprint(feetCalls(nil, nil, most, most)))
	}
}

// TestFeetReturnForAll is for promise 1: each measure, number and day with each hostile number.
func TestFeetReturnForAll(t *testing.T) {
	for _, x := range hostileNumbers {
		for _, y := range hostileNumbers {
			list := []impl.Foot{foot(x, y, x, y), foot(y, x, y, x)}
			feetCalls([]int64{x, y}, list, x, y)
			feetCalls([]int64{x, y}, longs(2500, 2600), x, y)
			feetCalls([]int64{x, y, x}, longs(2500, 2600, 2700), y, x)
			feetCalls([]int64{0, 100}, longs(2500, 2600), x, y)
		}
	}
}

// TestResultsAreNew is for promise 1: what a caller does with a result changes no other result.
func TestResultsAreNew(t *testing.T) {
	a, b := foot(2500, 2400, 2500, 3200), foot(2400, 2450, 2500, 3100)
	first, _ := impl.DifferenceOf(a, b)
	spoil(first)
	second, _ := impl.DifferenceOf(a, b)
	same(t, "difference", second, []int64{-100, 50, 0, -100})

	list := longs(2500, 2520, 2510, 2900)
	far, _ := impl.FarFeet(list, 5)
	spoil(far)
	again, _ := impl.FarFeet(list, 5)
	same(t, "far feet", again, []int64{0, 1, 3})
	same(t, "list", list, longs(2500, 2520, 2510, 2900))

	words := impl.SplitWords("a b c")
	for i := range words {
		words[i] = "x"
	}
	words = append(words[:0], "y", "y", "y")
	same(t, "words", impl.SplitWords("a b c"), []string{"a", "b", "c"})

	one, two := scale("one", 0, 10, 1), scale("two", 0, 20, 1)
	lost, _ := impl.LostSizes(one, two, 0, 6)
	spoil(lost)
	anew, _ := impl.LostSizes(one, two, 0, 6)
	same(t, "lost sizes", anew, []int64{1, 3, 5})
}

// spoil overwrites a result up to its capacity.
func spoil(list []int64) {
	for i := range list[:cap(list)] {
		list[:cap(list)][i] = -77
	}
}

// TestBasicsReturnForAll is for promise 1: any number and any text, twice.
func TestBasicsReturnForAll(t *testing.T) {
	for _, n := range hostileNumbers {
		same(t, "code", impl.CodeName(n), impl.CodeName(n))
		same(t, "decimal", impl.Decimal(n), impl.Decimal(n))
	}
	var n numbers
	texts := []string{"", "\x00", "\xff", strings.Repeat("-", 100000), strings.Repeat(" ", 100000), strings.Repeat("9", 100000), strings.Repeat("/", 100000), strings.Repeat("a ", 50000)}
	for range 2000 {
		var text []byte
		for range n.from(0, 24) {
			text = append(text, byte(n.from(0, 255)))
		}
		texts = append(texts, string(text))
	}
	for _, s := range texts {
		same(t, "result", textCalls(s), textCalls(strings.Clone(s)))
	}
}

// textCalls calls every function of chapters 1 to 4 that takes a text.
func textCalls(s string) string {
	n, ok := impl.ReadDecimal(s)
	f, is := impl.ReadFoot(s)
	half, has := impl.ReadSize(s)
	x, code := impl.ScaleNamed(s)
	valid := impl.ValidScale(scale(s, 0, 100, 3))
	made, can := impl.ReadLast(s)
	at, found := impl.LastNamed(goodLasts()[:1], s)
	return fmt.Sprint(impl.IsName(s), n, ok, len(impl.SplitWords(s)), strings.Join(impl.SplitWords(s), "|"), f, is, half, has, x, code, valid, made, can, at, found, impl.LastText(namedLasts(s)[0]))
}

// sizeCalls calls every function of chapter 3 that takes numbers, and returns the results.
func sizeCalls(a, b impl.Scale, w impl.Widths, x, y int64) []any {
	length, one := impl.LengthOfHalf(a, x)
	least, two := impl.HalfFor(a, x)
	nearest, three := impl.NearestHalf(a, x)
	converted, four := impl.ConvertHalf(a, x, b)
	lost, five := impl.LostSizes(a, b, x, y)
	girth, six := impl.GirthOf(w, x, y)
	width, seven := impl.WidthFor(w, x, y)
	return []any{impl.ValidScale(a), impl.ValidWidths(w), length, one, least, two, nearest, three, converted, four, plain(lost), five, girth, six, width, seven, impl.SizeText(x)}
}

// TestSizesArePure is for promise 1: each number of valid and of invalid scales and widths with each hostile number, twice.
func TestSizesArePure(t *testing.T) {
	scales := append(badScales(), scale("a", 0, 1, 1), scale("a", 0, 1, 100), scale("a", 100, 1000, 1), scale("english", 50, 127, 3))
	list := append(badWidths(), widths(1000, 0, 1, 1), widths(3000, 50, 200, 12), widths(2000, 20, 50, 5))
	for i, a := range scales {
		for j, b := range scales {
			w := list[(i+j)%len(list)]
			for _, x := range hostileSizes {
				for _, y := range []int64{math.MinInt64, 0, 11, 120, 5000, math.MaxInt64} {
					first := fmt.Sprint(sizeCalls(a, b, w, x, y))
					same(t, "second call", fmt.Sprint(sizeCalls(a, b, w, x, y)), first)
				}
			}
		}
	}
}

// TestLibraryStays is for promise 1: what a caller does with a scale changes no other result.
func TestLibraryStays(t *testing.T) {
	x := named(t, "paris")
	x.Name, x.Base, x.Num, x.Den = "mine", 1, 2, 3
	same(t, "scale", named(t, "paris"), scale("paris", 0, 100, 3))
	_, code := impl.ScaleNamed("mine")
	same(t, "code", code, impl.ErrNotFound)
}

// lastCalls calls every function of chapter 4 that takes lasts and returns the results.
func lastCalls(list []impl.Last, f, g impl.Foot, w impl.Fit) []any {
	x := last("a05-b", 2000, 2000, 2000, 2000, 100)
	if len(list) > 0 {
		x = list[len(list)/2]
	}
	more, one := impl.AddLast(list, last("a05-b", 2000, 2000, 2000, 2000, 100))
	at, two := impl.LastNamed(list, x.Name)
	may, three := impl.MayFit(x, f, w)
	cost, four := impl.FitCost(x, f, w)
	allowed, five := impl.AllowedLasts(list, f, w)
	best, six := impl.BestLast(list, f, w)
	ranked, seven := impl.RankLasts(list, f, w)
	pair, eight := impl.PairLast(list, f, g, w)
	text := impl.LastText(x)
	read, ok := impl.ReadLast(text)
	return []any{impl.ValidLasts(list), impl.SameLasts(list, more), impl.SameLasts(list, list), impl.ValidFit(w), plain(more), one, at, two, may, three, cost, four, plain(allowed), five, best, six, plain(ranked), seven, pair, eight, text, read, ok}
}

// TestLastsArePure is for promise 1: valid and invalid arguments, called twice, with arguments that must stay as they are up to their capacity.
func TestLastsArePure(t *testing.T) {
	var n numbers
	badMade, badFit := badLasts(), badFits()
	for i := range int64(1000) {
		count := i % 33
		list := lastsOf(&n, count, 2000, 2020)
		feet := feetOf(&n, 2, 1990, 2020)
		w := randomFit(&n, 20)
		if i%5 == 0 && count > 0 {
			list[n.from(0, count-1)] = badMade[i%int64(len(badMade))]
		}
		if i%7 == 0 {
			w = badFit[i%int64(len(badFit))]
		}
		if i%11 == 0 {
			*measuresOf(&feet[i%2])[i%4] = hostileNumbers[i%18]
		}
		weights := len(w.Weights)
		list, w.Weights = guard(list, last("mark", 500, 500, 500, 500, 7)), guard(w.Weights, 77)
		lastsBefore, weightsBefore := slices.Clone(list[:count+3]), slices.Clone(w.Weights[:weights+3])
		first := fmt.Sprintf("%#v", lastCalls(list, feet[0], feet[1], w))
		same(t, "lasts", list[:count+3], lastsBefore)
		same(t, "weights", w.Weights[:weights+3], weightsBefore)
		same(t, "second call", fmt.Sprintf("%#v", lastCalls(list, feet[0], feet[1], w)), first)
		w.Weights = slices.Clip(weightsBefore[:weights])
		same(t, "call with copies", fmt.Sprintf("%#v", lastCalls(slices.Clip(lastsBefore[:count]), feet[0], feet[1], w)), first)
	}
}

// TestNoLastsAreNil is for promise 1: equal results for nil lists and weights and for empty ones.
func TestNoLastsAreNil(t *testing.T) {
	f := long(2500)
	for _, w := range []impl.Fit{fit(80, 120, 20, 1, 2, 2, 1), {Weights: []int64{}}} {
		same(t, "results", fmt.Sprint(lastCalls([]impl.Last{}, f, f, w)), fmt.Sprint(lastCalls(nil, f, f, w)))
	}
	same(t, "weights", fmt.Sprint(lastCalls(goodLasts()[:1], f, f, impl.Fit{Weights: []int64{}})), fmt.Sprint(lastCalls(goodLasts()[:1], f, f, impl.Fit{})))
}

// TestLastsReturnForAll is for promise 1: each number of a last, a foot and a fit with each hostile number.
func TestLastsReturnForAll(t *testing.T) {
	for _, x := range hostileNumbers {
		for _, y := range hostileNumbers {
			made := []impl.Last{last("a", x, y, x, y, y), last("b", 2600, 2400, 2500, 3200, x), last("c", y, 2400, x, 3200, 0)}
			for i := range made {
				lastCalls(made[i:i+1], long(2500), foot(x, y, y, x), fit(x, y, x, y, x, y, x))
			}
			lastCalls(made, foot(y, x, y, x), long(2500), fit(0, 500, y, 1, x, 1, y))
			lastCalls(goodLasts()[:1], long(2500), foot(x, y, y, x), fit(80, 120, 20, 1, 2, 2, 1))
			lastCalls(goodLasts()[:1], long(2500), long(2510), fit(x, y, 20, 1, 2, 2, 1))
			lastCalls(goodLasts()[:1], long(2500), long(2510), fit(80, 120, x, 1, 2, y, 1))
		}
	}
}

// TestResultsOfLastsAreNew is for promise 1: what a caller does with a result changes neither an argument nor another result.
func TestResultsOfLastsAreNew(t *testing.T) {
	w, before := fit(80, 120, 20, 1, 2, 2, 1), namedLasts("b", "d")
	list := guard(before, last("mark", 500, 500, 500, 500, 7))
	for _, name := range []string{"a", "c", "e"} {
		more, _ := impl.AddLast(list, namedLasts(name)[0])
		for i := range more[:cap(more)] {
			more[:cap(more)][i] = last("spoilt", 500, 500, 500, 500, 7)
		}
		same(t, "list", list[:2], before)
		again, _ := impl.AddLast(list, namedLasts(name)[0])
		same(t, "added again", len(again), 3)
		same(t, "valid", impl.ValidLasts(again), true)
		same(t, "behind the list", list[:5][2], last("mark", 500, 500, 500, 500, 7))
	}
	for range 2 {
		allowed, _ := impl.AllowedLasts(list, long(2500), w)
		ranked, _ := impl.RankLasts(list, long(2500), w)
		same(t, "lasts", []any{allowed, ranked}, []any{[]int64{0, 1}, []int64{0, 1}})
		spoil(allowed)
		same(t, "ranked lasts", ranked, []int64{0, 1})
		spoil(ranked)
	}
}
