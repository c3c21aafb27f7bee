package tests

import (
	"fmt"
	"math"
	"runtime"
	"slices"
	"strings"
	"testing"
	"time"

	"loop.example/g01043/impl"
)

// guard returns the list with capacity behind its end, filled with marks.
func guard[T any](list []T, mark T) []T {
	all := append(slices.Clone(list), mark, mark, mark)
	return all[:len(list)]
}

// feetCalls calls every function of chapter 2 and returns the results.
func feetCalls(days []int64, list []impl.Foot, most, day int64) []any {
	var a, b impl.Foot
	if len(list) > 0 {
		a, b = list[0], list[len(list)-1]
	}
	middle, one := impl.MiddleFoot(list)
	far, two := impl.FarFeet(list, most)
	joined, three := impl.JoinFeet(list, most)
	larger, four := impl.LargerFoot(a, b)
	difference, five := impl.DifferenceOf(a, b)
	spread, six := impl.SpreadOf(list)
	growth, seven := impl.GrowthOf(days, list)
	length, eight := impl.LengthOn(days, list, day)
	text := impl.FootText(a)
	read, ok := impl.ReadFoot(text)
	return []any{impl.ValidFoot(a), impl.ValidFeet(list), middle, one, plain(far), two, joined, three, larger, four, plain(difference), five, spread, six, growth, seven, length, eight, text, read, ok}
}

// hostileNumbers are numbers at both ends of ranges, just beyond them and far from them.
var hostileNumbers = []int64{math.MinInt64, math.MinInt64 + 1, -1 << 32, -5001, -1, 0, 1, 499, 500, 5000, 5001, 10000, 10001, 20000, 20001, 1 << 32, math.MaxInt64 - 1, math.MaxInt64}

// hostileSizes are the same for half sizes, widths and girths.
var hostileSizes = []int64{math.MinInt64, math.MinInt64 + 1, -1 << 32, -1, 0, 1, 11, 12, 119, 120, 121, 4999, 5000, 5001, 1 << 32, math.MaxInt64 - 1, math.MaxInt64}

// TestFeetArePure is for promise 1: valid and invalid arguments, called twice, with arguments that must stay as they are up to their capacity.
func TestFeetArePure(t *testing.T) {
	var n numbers
	for i := range int64(1000) {
		count := i % 33
		list := feetOf(&n, count, 490, 5010)
		days := daysOf(&n, count, 350)
		if i%2 == 0 {
			list = feetOf(&n, count, 500, 5000)
		}
		if i%7 == 0 && count > 0 {
			list[n.from(0, count-1)].Heel = hostileNumbers[n.from(0, 17)]
			days[n.from(0, count-1)] = hostileNumbers[n.from(0, 17)]
		}
		most, day := hostileNumbers[i%18], hostileNumbers[n.from(0, 17)]
		mark := foot(5000, 500, 5000, 500)
		list, days = guard(list, mark), guard(days, 77)
		feetBefore, daysBefore := slices.Clone(list[:count+3]), slices.Clone(days[:count+3])
		first := fmt.Sprintf("%#v", feetCalls(days, list, most, day))
		same(t, "feet", list[:count+3], feetBefore)
		same(t, "days", days[:count+3], daysBefore)
		same(t, "second call", fmt.Sprintf("%#v", feetCalls(days, list, most, day)), first)
		same(t, "call with copies", fmt.Sprintf("%#v", feetCalls(slices.Clip(daysBefore[:count]), slices.Clip(feetBefore[:count]), most, day)), first)
	}
}

// TestNilIsEmpty is for promise 1: equal results for nil slices and empty ones.
func TestNilIsEmpty(t *testing.T) {
	for _, most := range hostileNumbers {
		same(t, "results", fmt.Sprint(feetCalls([]int64{}, []impl.Foot{}, most, most)), fmt.Sprint(feetCalls(nil, nil, most, most)))
	}
}

// TestFeetReturnForAll is for promise 1: each measure, number and day with each hostile number.
func TestFeetReturnForAll(t *testing.T) {
	for _, x := range hostileNumbers {
		for _, y := range hostileNumbers {
			list := []impl.Foot{foot(x, y, x, y), foot(y, x, y, x)}
			feetCalls([]int64{x, y}, list, x, y)
			feetCalls([]int64{x, y}, longs(2500, 2600), x, y)
			feetCalls([]int64{x, y, x}, longs(2500, 2600, 2700), y, x)
			feetCalls([]int64{0, 100}, longs(2500, 2600), x, y)
		}
	}
}

// TestResultsAreNew is for promise 1: what a caller does with a result changes no other result.
func TestResultsAreNew(t *testing.T) {
	a, b := foot(2500, 2400, 2500, 3200), foot(2400, 2450, 2500, 3100)
	first, _ := impl.DifferenceOf(a, b)
	spoil(first)
	second, _ := impl.DifferenceOf(a, b)
	same(t, "difference", second, []int64{-100, 50, 0, -100})

	list := longs(2500, 2520, 2510, 2900)
	far, _ := impl.FarFeet(list, 5)
	spoil(far)
	again, _ := impl.FarFeet(list, 5)
	same(t, "far feet", again, []int64{0, 1, 3})
	same(t, "list", list, longs(2500, 2520, 2510, 2900))

	words := impl.SplitWords("a b c")
	for i := range words {
		words[i] = "x"
	}
	words = append(words[:0], "y", "y", "y")
	same(t, "words", impl.SplitWords("a b c"), []string{"a", "b", "c"})

	one, two := scale("one", 0, 10, 1), scale("two", 0, 20, 1)
	lost, _ := impl.LostSizes(one, two, 0, 6)
	spoil(lost)
	anew, _ := impl.LostSizes(one, two, 0, 6)
	same(t, "lost sizes", anew, []int64{1, 3, 5})
}

// spoil overwrites a result up to its capacity.
func spoil(list []int64) {
	for i := range list[:cap(list)] {
		list[:cap(list)][i] = -77
	}
}

// TestBasicsReturnForAll is for promise 1: any number and any text, twice.
func TestBasicsReturnForAll(t *testing.T) {
	for _, n := range hostileNumbers {
		same(t, "code", impl.CodeName(n), impl.CodeName(n))
		same(t, "decimal", impl.Decimal(n), impl.Decimal(n))
	}
	var n numbers
	texts := []string{"", "\x00", "\xff", strings.Repeat("-", 100000), strings.Repeat(" ", 100000), strings.Repeat("9", 100000), strings.Repeat("/", 100000), strings.Repeat("a ", 50000)}
	for range 2000 {
		var text []byte
		for range n.from(0, 24) {
			text = append(text, byte(n.from(0, 255)))
		}
		texts = append(texts, string(text))
	}
	for _, s := range texts {
		same(t, "result", textCalls(s), textCalls(strings.Clone(s)))
	}
}

// textCalls calls every function of chapters 1 to 12 that takes a text.
func textCalls(s string) string {
	n, ok := impl.ReadDecimal(s)
	f, is := impl.ReadFoot(s)
	half, has := impl.ReadSize(s)
	x, code := impl.ScaleNamed(s)
	valid := impl.ValidScale(scale(s, 0, 100, 3))
	made, can := impl.ReadLast(s)
	at, found := impl.LastNamed(goodLasts()[:1], s)
	g, grows := impl.ReadGrade(s)
	list, isOutline := impl.ReadOutline(s)
	cut, isPiece := impl.ReadPiece(s)
	edge, isStrip := impl.ReadStrip(s)
	written, sews := impl.PieceText(piece(s, 1, 2, 3)), impl.ValidPattern(impl.Pattern{Pieces: []impl.Piece{piece(s, 1, 2, 3)}})
	hides := []any{hideCalls([]string{s}, goodCuts()[:1], []int64{0}, 0, 0, 1), hideCalls([]string{"aab", s}, goodCuts()[:1], []int64{3}, 1, 0, 1), hideCalls(strings.SplitN(s, " ", 3), nil, nil, 0, 0, 1)}
	return fmt.Sprint(impl.IsName(s), n, ok, len(impl.SplitWords(s)), strings.Join(impl.SplitWords(s), "|"), f, is, half, has, x, code, valid, made, can, at, found, impl.LastText(namedLasts(s)[0]), g, grows, list, isOutline, cut, isPiece, edge, isStrip, written, sews, hides)
}

// sizeCalls calls every function of chapter 3 that takes numbers, and returns the results.
func sizeCalls(a, b impl.Scale, w impl.Widths, x, y int64) []any {
	length, one := impl.LengthOfHalf(a, x)
	least, two := impl.HalfFor(a, x)
	nearest, three := impl.NearestHalf(a, x)
	converted, four := impl.ConvertHalf(a, x, b)
	lost, five := impl.LostSizes(a, b, x, y)
	girth, six := impl.GirthOf(w, x, y)
	width, seven := impl.WidthFor(w, x, y)
	return []any{impl.ValidScale(a), impl.ValidWidths(w), length, one, least, two, nearest, three, converted, four, plain(lost), five, girth, six, width, seven, impl.SizeText(x)}
}

// TestSizesArePure is for promise 1: each number of valid and of invalid scales and widths with each hostile number, twice.
func TestSizesArePure(t *testing.T) {
	scales := append(badScales(), scale("a", 0, 1, 1), scale("a", 0, 1, 100), scale("a", 100, 1000, 1), scale("english", 50, 127, 3))
	list := append(badWidths(), widths(1000, 0, 1, 1), widths(3000, 50, 200, 12), widths(2000, 20, 50, 5))
	for i, a := range scales {
		for j, b := range scales {
			w := list[(i+j)%len(list)]
			for _, x := range hostileSizes {
				for _, y := range []int64{math.MinInt64, 0, 11, 120, 5000, math.MaxInt64} {
					first := fmt.Sprint(sizeCalls(a, b, w, x, y))
					same(t, "second call", fmt.Sprint(sizeCalls(a, b, w, x, y)), first)
				}
			}
		}
	}
}

// TestLibraryStays is for promise 1: what a caller does with a scale changes no other result.
func TestLibraryStays(t *testing.T) {
	x := named(t, "paris")
	x.Name, x.Base, x.Num, x.Den = "mine", 1, 2, 3
	same(t, "scale", named(t, "paris"), scale("paris", 0, 100, 3))
	_, code := impl.ScaleNamed("mine")
	same(t, "code", code, impl.ErrNotFound)
}

// lastCalls calls every function of chapter 4 that takes lasts and returns the results.
func lastCalls(list []impl.Last, f, g impl.Foot, w impl.Fit) []any {
	x := last("a05-b", 2000, 2000, 2000, 2000, 100)
	if len(list) > 0 {
		x = list[len(list)/2]
	}
	more, one := impl.AddLast(list, last("a05-b", 2000, 2000, 2000, 2000, 100))
	at, two := impl.LastNamed(list, x.Name)
	may, three := impl.MayFit(x, f, w)
	cost, four := impl.FitCost(x, f, w)
	allowed, five := impl.AllowedLasts(list, f, w)
	best, six := impl.BestLast(list, f, w)
	ranked, seven := impl.RankLasts(list, f, w)
	pair, eight := impl.PairLast(list, f, g, w)
	text := impl.LastText(x)
	read, ok := impl.ReadLast(text)
	return []any{impl.ValidLasts(list), impl.SameLasts(list, more), impl.SameLasts(list, list), impl.ValidFit(w), plain(more), one, at, two, may, three, cost, four, plain(allowed), five, best, six, plain(ranked), seven, pair, eight, text, read, ok}
}

// TestLastsArePure is for promise 1: valid and invalid arguments, called twice, with arguments that must stay as they are up to their capacity.
func TestLastsArePure(t *testing.T) {
	var n numbers
	badMade, badFit := badLasts(), badFits()
	for i := range int64(1000) {
		count := i % 33
		list := lastsOf(&n, count, 2000, 2020)
		feet := feetOf(&n, 2, 1990, 2020)
		w := randomFit(&n, 20)
		if i%5 == 0 && count > 0 {
			list[n.from(0, count-1)] = badMade[i%int64(len(badMade))]
		}
		if i%7 == 0 {
			w = badFit[i%int64(len(badFit))]
		}
		if i%11 == 0 {
			*measuresOf(&feet[i%2])[i%4] = hostileNumbers[i%18]
		}
		weights := len(w.Weights)
		list, w.Weights = guard(list, last("mark", 500, 500, 500, 500, 7)), guard(w.Weights, 77)
		lastsBefore, weightsBefore := slices.Clone(list[:count+3]), slices.Clone(w.Weights[:weights+3])
		first := fmt.Sprintf("%#v", lastCalls(list, feet[0], feet[1], w))
		same(t, "lasts", list[:count+3], lastsBefore)
		same(t, "weights", w.Weights[:weights+3], weightsBefore)
		same(t, "second call", fmt.Sprintf("%#v", lastCalls(list, feet[0], feet[1], w)), first)
		w.Weights = slices.Clip(weightsBefore[:weights])
		same(t, "call with copies", fmt.Sprintf("%#v", lastCalls(slices.Clip(lastsBefore[:count]), feet[0], feet[1], w)), first)
	}
}

// TestNoLastsAreNil is for promise 1: equal results for nil lists and weights and for empty ones.
func TestNoLastsAreNil(t *testing.T) {
	f := long(2500)
	for _, w := range []impl.Fit{fit(80, 120, 20, 1, 2, 2, 1), {Weights: []int64{}}} {
		same(t, "results", fmt.Sprint(lastCalls([]impl.Last{}, f, f, w)), fmt.Sprint(lastCalls(nil, f, f, w)))
	}
	same(t, "weights", fmt.Sprint(lastCalls(goodLasts()[:1], f, f, impl.Fit{Weights: []int64{}})), fmt.Sprint(lastCalls(goodLasts()[:1], f, f, impl.Fit{})))
}

// TestLastsReturnForAll is for promise 1: each number of a last, a foot and a fit with each hostile number.
func TestLastsReturnForAll(t *testing.T) {
	for _, x := range hostileNumbers {
		for _, y := range hostileNumbers {
			made := []impl.Last{last("a", x, y, x, y, y), last("b", 2600, 2400, 2500, 3200, x), last("c", y, 2400, x, 3200, 0)}
			for i := range made {
				lastCalls(made[i:i+1], long(2500), foot(x, y, y, x), fit(x, y, x, y, x, y, x))
			}
			lastCalls(made, foot(y, x, y, x), long(2500), fit(0, 500, y, 1, x, 1, y))
			lastCalls(goodLasts()[:1], long(2500), foot(x, y, y, x), fit(80, 120, 20, 1, 2, 2, 1))
			lastCalls(goodLasts()[:1], long(2500), long(2510), fit(x, y, 20, 1, 2, 2, 1))
			lastCalls(goodLasts()[:1], long(2500), long(2510), fit(80, 120, x, 1, 2, y, 1))
		}
	}
}

// TestResultsOfLastsAreNew is for promise 1: what a caller does with a result changes neither an argument nor another result.
func TestResultsOfLastsAreNew(t *testing.T) {
	w, before := fit(80, 120, 20, 1, 2, 2, 1), namedLasts("b", "d")
	list := guard(before, last("mark", 500, 500, 500, 500, 7))
	for _, name := range []string{"a", "c", "e"} {
		more, _ := impl.AddLast(list, namedLasts(name)[0])
		for i := range more[:cap(more)] {
			more[:cap(more)][i] = last("spoilt", 500, 500, 500, 500, 7)
		}
		same(t, "list", list[:2], before)
		again, _ := impl.AddLast(list, namedLasts(name)[0])
		same(t, "added again", len(again), 3)
		same(t, "valid", impl.ValidLasts(again), true)
		same(t, "behind the list", list[:5][2], last("mark", 500, 500, 500, 500, 7))
	}
	for range 2 {
		allowed, _ := impl.AllowedLasts(list, long(2500), w)
		ranked, _ := impl.RankLasts(list, long(2500), w)
		same(t, "lasts", []any{allowed, ranked}, []any{[]int64{0, 1}, []int64{0, 1}})
		spoil(allowed)
		same(t, "ranked lasts", ranked, []int64{0, 1})
		spoil(ranked)
	}
}

// gradeCalls calls every function of chapter 5 that takes a grade or lasts, and returns the results.
func gradeCalls(x, y impl.Last, g impl.Grade, from, to, length int64) []any {
	after, one := impl.GradeLast(x, g, from)
	set, two := impl.GradeSet(x, g, from, to)
	between, three := impl.GradeBetween(x, y, to)
	steps, four := impl.StepsFor(x, g, length)
	text := impl.GradeText(g)
	read, ok := impl.ReadGrade(text)
	return []any{impl.ValidGrade(g), after, one, plain(set), two, between, three, steps, four, text, read, ok}
}

// hostileSteps are half sizes, numbers of grades and lengths at both ends of ranges, just beyond them and far from them.
var hostileSteps = []int64{math.MinInt64, math.MinInt64 + 1, -1 << 32, -31, -30, -1, 0, 1, 30, 31, 499, 500, 5000, 5001, 20000, 20001, 1 << 32, math.MaxInt64 - 1, math.MaxInt64}

// TestGradingsArePure is for promise 1: each number of lasts and grades with each hostile number, twice.
func TestGradingsArePure(t *testing.T) {
	made := append(badLasts(), goodLasts()...)
	grades := append(badGrades(), goodGrades()...)
	for i, x := range hostileSteps {
		for j, y := range hostileSteps {
			for k := range 5 {
				a, b, g := made[(i+j)%len(made)], goodLasts()[k], grades[(7*i+j)%len(grades)]
				*graded(&b)[k] = x
				for _, c := range []struct {
					a, b  impl.Last
					grade impl.Grade
				}{{a, b, g}, {goodLasts()[k], goodLasts()[j%5], g}, {b, goodLasts()[i%5], grade(x, y, x, y, x)}, {goodLasts()[0], goodLasts()[k], grade(50, 50, 50, 50, 50)}} {
					length := hostileSteps[(i+j+k)%19]
					first := fmt.Sprint(gradeCalls(c.a, c.b, c.grade, x, y, length))
					second := fmt.Sprint(gradeCalls(c.a, c.b, c.grade, x, y, length))
					same(t, "second call", second, first)
				}
			}
		}
	}
}

// lengthCalls calls every function of chapter 5 that takes lengths, and returns the results.
func lengthCalls(a, b []int64, sum, num, den int64) []any {
	shares, one := impl.GradeLengths(a, sum)
	scaled, two := impl.ScaleLengths(a, num, den)
	errors, three := impl.ScaleErrors(a, num, den)
	left, right, four := impl.GradeSeam(a, b, sum)
	return []any{plain(shares), one, plain(scaled), two, plain(errors), three, plain(left), plain(right), four}
}

// hostileLengths are lengths, sums and both parts of ratios at both ends of ranges, just beyond them and far from them.
var hostileLengths = []int64{math.MinInt64, math.MinInt64 + 1, -1 << 32, -1, 0, 1, 2, 999, 1000, 1001, 9999, 10000, 10001, 999999, 1000000, 1000001, 1 << 32, math.MaxInt64 - 1, math.MaxInt64}

// TestLengthsArePure is for promise 1: valid and invalid arguments, called twice, with arguments that must stay as they are up to their capacity.
func TestLengthsArePure(t *testing.T) {
	var n numbers
	for i := range int64(3000) {
		a, sum := randomLengths(&n, i)
		b := slices.Clone(a)
		slices.Reverse(b)
		num, den := n.from(1, 1000), n.from(1, 1000)
		switch i % 9 {
		case 1:
			a[n.from(0, int64(len(a))-1)] = hostileLengths[n.from(0, 18)]
		case 2:
			b = nil
		case 3:
			a = lengthsOf(&n, n.from(0, 25), -1, 3)
		case 4:
			sum, num = hostileLengths[n.from(0, 18)], hostileLengths[n.from(0, 18)]
		case 5:
			sum, den = hostileLengths[n.from(0, 18)], hostileLengths[n.from(0, 18)]
		}
		a, b = guard(a, 77), guard(b, 78)
		aBefore, bBefore := slices.Clone(a[:len(a)+3]), slices.Clone(b[:len(b)+3])
		first := fmt.Sprintf("%#v", lengthCalls(a, b, sum, num, den))
		same(t, "one side", a[:len(a)+3], aBefore)
		same(t, "other side", b[:len(b)+3], bBefore)
		same(t, "second call", fmt.Sprintf("%#v", lengthCalls(a, b, sum, num, den)), first)
		same(t, "call with copies", fmt.Sprintf("%#v", lengthCalls(slices.Clip(aBefore[:len(a)]), slices.Clip(bBefore[:len(b)]), sum, num, den)), first)
	}
}

// TestLengthsReturnForAll is for promise 1: each number with each hostile number; nil lists are like empty ones.
func TestLengthsReturnForAll(t *testing.T) {
	for _, x := range hostileLengths {
		for _, y := range hostileLengths {
			lengthCalls([]int64{x, y}, []int64{y, x}, x, y, x)
			lengthCalls([]int64{100, x}, []int64{100, x}, y, 1, 1)
			lengthCalls([]int64{100, 200}, []int64{x, y}, 330, x, y)
			lengthCalls([]int64{100, 200}, []int64{300}, x, x, y)
			same(t, "results", fmt.Sprint(lengthCalls([]int64{}, []int64{}, x, y, y)), fmt.Sprint(lengthCalls(nil, nil, x, y, y)))
		}
	}
}

// TestResultsOfGradingsAreNew is for promise 1: what a caller does with a result changes neither an argument nor another result.
func TestResultsOfGradingsAreNew(t *testing.T) {
	list := []int64{150, 150}
	for range 2 {
		// The same list for both sides, and sums that leave all lengths as they are.
		a, b, _ := impl.GradeSeam(list, list, 300)
		shares, _ := impl.GradeLengths(list, 300)
		scaled, _ := impl.ScaleLengths(list, 1, 1)
		for _, result := range [][]int64{a, b, shares, scaled} {
			same(t, "result", result, []int64{150, 150})
			spoil(result)
			same(t, "list", list, []int64{150, 150})
		}
		errors, _ := impl.ScaleErrors(list, 1, 1)
		same(t, "errors", errors, []impl.Fraction{{Den: 1}, {Den: 1}})
		errors[0], errors[1] = impl.Fraction{}, impl.Fraction{}

		x := last("a", 2500, 2500, 2500, 2500, 500)
		set, _ := impl.GradeSet(x, impl.Grade{}, 0, 1)
		same(t, "set", set, []impl.Last{x, x})
		set[0], set[1] = impl.Last{}, impl.Last{}
	}
}

// buildCalls calls every function of chapter 6 and returns the results.
func buildCalls(layers, prices []int64, x impl.Last, f impl.Foot, low, high int64) []any {
	few, one := impl.FewestLayers(layers, high)
	within, two := impl.FewestWithin(layers, low, high)
	many, three := impl.CountBuilds(layers, high)
	none, four := impl.UnreachedSums(layers, high)
	cheap, price, five := impl.CheapestBuild(layers, prices, high)
	need, six := impl.NeedOf(x, f)
	made, seven := impl.BuildLast(x, low, layers)
	more, eight := impl.BuildLast(x, high, prices)
	builds, nine := impl.BuildUpFor(x, f, layers, low)
	return []any{impl.ValidLayers(layers), plain(few), one, plain(within), two, many, three, plain(none), four, plain(cheap), price, five, plain(need), six, made, seven, more, eight, plain(builds), nine}
}

// hostileSums are sums, prices and layers at both ends of ranges, just beyond them and far from them.
var hostileSums = []int64{math.MinInt64, math.MinInt64 + 1, -1 << 32, -1001, -1, 0, 1, 2, 3, 4, 199, 200, 201, 999, 1000, 1001, 5000, 1 << 32, math.MaxInt64 - 1, math.MaxInt64}

// TestBuildUpsArePure is for promise 1: valid and invalid arguments, called twice, with arguments that must stay as they are up to their capacity.
func TestBuildUpsArePure(t *testing.T) {
	var n numbers
	for i := range int64(1500) {
		layers, most := layersOf(&n, 1+i%8, 1, []int64{12, 60, 200}[i%3]), []int64{5, 60, 900}[i/3%3]
		prices := lengthsOf(&n, int64(len(layers)), 0, []int64{0, 3, 1000}[i/9%3])
		x, f := randomGirths(&n, most)
		high := n.from(0, 1000)
		low := n.from(0, high)
		switch i % 10 {
		case 1:
			layers[n.from(0, int64(len(layers))-1)] = hostileSums[n.from(0, 19)]
		case 2:
			prices[n.from(0, int64(len(prices))-1)] = hostileSums[n.from(0, 19)]
		case 3:
			layers = lengthsOf(&n, n.from(0, 10), 0, 12)
		case 4:
			low, high = hostileSums[n.from(0, 19)], hostileSums[n.from(0, 19)]
		case 5:
			x = badLasts()[i%int64(len(badLasts()))]
		case 6:
			*measuresOf(&f)[i%4] = hostileSums[n.from(0, 19)]
		case 7:
			prices = lengthsOf(&n, n.from(90, 110), 1, 200)
		}
		layers, prices = guard(layers, 77), guard(prices, 78)
		layersBefore, pricesBefore := slices.Clone(layers[:len(layers)+3]), slices.Clone(prices[:len(prices)+3])
		first := fmt.Sprintf("%#v", buildCalls(layers, prices, x, f, low, high))
		same(t, "layers", layers[:len(layers)+3], layersBefore)
		same(t, "prices", prices[:len(prices)+3], pricesBefore)
		same(t, "second call", fmt.Sprintf("%#v", buildCalls(layers, prices, x, f, low, high)), first)
		same(t, "call with copies", fmt.Sprintf("%#v", buildCalls(slices.Clip(layersBefore[:len(layers)]), slices.Clip(pricesBefore[:len(prices)]), x, f, low, high)), first)
	}
}

// TestBuildUpsReturnForAll is for promise 1: each number with each hostile number; nil lists are like empty ones.
func TestBuildUpsReturnForAll(t *testing.T) {
	x, f := needing(10, 20, 0)
	for _, p := range hostileSums {
		for _, q := range hostileSums {
			odd, strange := last("a", p, q, p, q, q), foot(q, p, q, p)
			buildCalls([]int64{p, q}, []int64{q, p}, odd, strange, p, q)
			buildCalls([]int64{4, 10, 12}, []int64{p, q, p}, x, strange, q, p)
			buildCalls([]int64{4, p, q}, []int64{1, 3, 9}, odd, f, 1, 1000)
			buildCalls([]int64{1, 2, 3, 4, 5, 6, 7, 8}, []int64{1, 2, 3, 4, 5, 6, 7, 8}, x, f, p, q)
			same(t, "results", fmt.Sprint(buildCalls([]int64{}, []int64{}, x, f, p, q)), fmt.Sprint(buildCalls(nil, nil, x, f, p, q)))
			same(t, "results without prices", fmt.Sprint(buildCalls([]int64{4}, []int64{}, x, f, p, q)), fmt.Sprint(buildCalls([]int64{4}, nil, x, f, p, q)))
		}
	}
}

// TestResultsOfBuildUpsAreNew is for promise 1: what a caller does with a result changes neither an argument nor another result, nor another part of the same one.
func TestResultsOfBuildUpsAreNew(t *testing.T) {
	layers, prices := []int64{10}, []int64{10}
	x, f := needing(10, 10, 10)
	for range 2 {
		few, _ := impl.FewestLayers(layers, 10)
		within, _ := impl.FewestWithin(layers, 1, 10)
		cheap, _, _ := impl.CheapestBuild(layers, prices, 10)
		builds, _ := impl.BuildUpFor(x, f, layers, 0)
		for _, result := range append([][]int64{few, within, cheap}, builds...) {
			same(t, "result", result, []int64{10})
			spoil(result)
			same(t, "arguments", []any{layers, prices}, []any{[]int64{10}, []int64{10}})
		}
		for i := range builds[:cap(builds)] {
			builds[:cap(builds)][i] = nil
		}
		need, _ := impl.NeedOf(x, f)
		same(t, "need", need, []int64{10, 10, 10})
		spoil(need)
		none, _ := impl.UnreachedSums([]int64{1, 4}, 0)
		same(t, "no sums", none, []int64(nil))
		none, _ = impl.UnreachedSums([]int64{2, 3}, 4)
		same(t, "sums", none, []int64{1})
		spoil(none)
	}
}

// outlineCalls calls every function of chapter 7 and returns the results.
func outlineCalls(list, other []impl.Spot, p impl.Spot, quarters int64) []any {
	twice, one := impl.TwiceArea(list)
	left, two := impl.IsLeftHanded(list)
	place, three := impl.PlaceOfSpot(list, p)
	low, high, four := impl.BoxOf(list)
	hull, five := impl.HullOf(list)
	hollow, six := impl.IsHollow(list)
	mirrored, seven := impl.MirrorOutline(list)
	turned, eight := impl.TurnOutline(list, quarters)
	inside, onSides, nine := impl.SpotsInside(list)
	text := impl.OutlineText(list)
	read, ok := impl.ReadOutline(text)
	return []any{impl.ValidOutline(list), impl.SameOutline(list, other), impl.SameOutline(other, list), twice, one, left, two, place, three, low, high, four, plain(hull), five, hollow, six, plain(mirrored), seven, plain(turned), eight, inside, onSides, nine, text, plain(read), ok}
}

// hostilePlaces are places and quarters at both ends of ranges, just beyond them and far from them.
var hostilePlaces = []int64{math.MinInt64, math.MinInt64 + 1, -1 << 32, -10001, -10000, -1, 0, 1, 2, 3, 4, 5, 9999, 10000, 10001, 1 << 32, math.MaxInt64 - 1, math.MaxInt64}

// TestOutlinesArePure is for promise 1: valid and invalid arguments, called twice, with arguments that must stay as they are up to their capacity.
func TestOutlinesArePure(t *testing.T) {
	var n numbers
	for i, list := range append(outlinesOf(&n, 30), badOutlines()...) {
		p, quarters := spot(n.from(0, 40), n.from(0, 40)), n.from(0, 3)
		switch i % 6 {
		case 1:
			p = otherSpots[n.from(0, int64(len(otherSpots))-1)]
		case 2:
			quarters = hostilePlaces[n.from(0, 17)]
		case 3:
			list = append(list, spotsOf(&n, 1, 0, 10000)...)
		case 4:
			if len(list) > 0 {
				list[n.from(0, int64(len(list))-1)].X = hostilePlaces[n.from(0, 17)]
			}
		}
		count := len(list)
		other := slices.Clone(list[:count-count%2])
		list, other = guard(list, spot(7, 7)), guard(other, spot(8, 8))
		listBefore, otherBefore := slices.Clone(list[:count+3]), slices.Clone(other[:len(other)+3])
		first := fmt.Sprintf("%#v", outlineCalls(list, other, p, quarters))
		same(t, "corners", list[:count+3], listBefore)
		same(t, "other corners", other[:len(other)+3], otherBefore)
		same(t, "second call", fmt.Sprintf("%#v", outlineCalls(list, other, p, quarters)), first)
		same(t, "call with copies", fmt.Sprintf("%#v", outlineCalls(slices.Clip(listBefore[:count]), slices.Clip(otherBefore[:len(other)]), p, quarters)), first)
	}
}

// TestOutlinesReturnForAll is for promise 1: each number with each hostile number; nil lists are like empty ones.
func TestOutlinesReturnForAll(t *testing.T) {
	for _, x := range hostilePlaces {
		for _, y := range hostilePlaces {
			p, q := spot(x, y), spot(y, x)
			lists := [][]impl.Spot{{p}, {p, q}, {p, q, p}, {p, q, spot(x, x)}, {p, spot(4, 0), spot(0, 3)}, {spot(0, 0), p, q}, {spot(0, 0), spot(10000, 0), p, spot(0, 10000)}, append(bow(23), p), append(bow(24), p), spots("0,0 4,0 0,3")}
			for i, list := range lists {
				outlineCalls(list, lists[(i+1)%len(lists)], q, y)
			}
			same(t, "results", fmt.Sprint(outlineCalls([]impl.Spot{}, []impl.Spot{}, p, y)), fmt.Sprint(outlineCalls(nil, nil, p, y)))
		}
	}
}

// TestResultsOfOutlinesAreNew is for promise 1: what a caller does with a result changes neither an argument nor another result, also where the result is equal to the argument.
func TestResultsOfOutlinesAreNew(t *testing.T) {
	const text = "0,0 4,0 4,3 0,3"
	list := spots(text)
	for range 2 {
		hull, _ := impl.HullOf(list)
		turned, _ := impl.TurnOutline(list, 0)
		half, _ := impl.TurnOutline(spots("4,3 0,3 0,0 4,0"), 2)
		mirrored, _ := impl.MirrorOutline(spots("4,3 0,3 0,0 4,0"))
		read, _ := impl.ReadOutline(text)
		same(t, "mirrored", mirrored, spots("0,0 4,0 4,3 0,3"))
		for _, result := range [][]impl.Spot{hull, turned, half, mirrored, read} {
			same(t, "result", result, spots(text))
			all := result[:cap(result)]
			for i := range all {
				all[i] = spot(-77, -77)
			}
			same(t, "corners", list, spots(text))
		}
	}
}

// patternCalls calls every function of chapter 8 and returns the results.
func patternCalls(p, other impl.Pattern, s impl.Seam, most int64) []any {
	more, one := impl.AddSeam(p, s)
	differences, two := impl.SeamDifferences(p)
	open, three := impl.OpenEdges(p)
	openings, four := impl.OpeningsOf(p)
	parts, five := impl.PartsOf(p)
	corners, six := impl.CornersOf(p)
	euler, seven := impl.EulerOf(p)
	kind, at, eight := impl.FirstFault(p, most)
	sound, nine := impl.IsSound(p, most)
	results := []any{impl.ValidPattern(p), impl.SamePattern(p, other), impl.SamePattern(other, p), plain(more), one, plain(differences), two, plain(open), three, plain(openings), four, plain(parts), five, corners, six, euler, seven, kind, at, eight, sound, nine}
	for _, x := range p.Pieces {
		text := impl.PieceText(x)
		read, ok := impl.ReadPiece(text)
		results = append(results, text, plain(read), ok)
	}
	return results
}

// hostileEdges are edges, pieces, openings and differences at both ends of ranges, just beyond them and far from them.
var hostileEdges = []int64{math.MinInt64, math.MinInt64 + 1, -1 << 32, -10001, -1, 0, 1, 2, 3, 7, 8, 9, 10, 11, 100, 101, 9999, 10000, 10001, 1 << 32, 1<<32 + 1, math.MaxInt64 - 1, math.MaxInt64}

// guardPattern returns the pattern with marks behind all its lists.
func guardPattern(p impl.Pattern) impl.Pattern {
	p = like(p)
	for i := range p.Pieces {
		p.Pieces[i].Edges = guard(p.Pieces[i].Edges, 77)
	}
	return impl.Pattern{Pieces: guard(p.Pieces, piece("mark", 7, 7, 7)), Seams: guard(p.Seams, seam(7, 7, 7, 7)), Openings: p.Openings}
}

// allOfPattern writes the pattern up to the capacity of all its lists.
func allOfPattern(p impl.Pattern) string {
	text := fmt.Sprint(p.Openings, p.Seams[:cap(p.Seams)], p.Pieces[:cap(p.Pieces)])
	for _, x := range p.Pieces {
		text += fmt.Sprint(x.Edges[:cap(x.Edges)])
	}
	return text
}

// TestPatternsArePure is for promise 1: valid and invalid arguments, called twice, with arguments that must stay as they are up to their capacity.
func TestPatternsArePure(t *testing.T) {
	var n numbers
	for i, p := range slices.Concat(patternsOf(&n, 60), goodPatterns(), badPatterns()) {
		most, s := n.from(0, 10000), seam(n.from(0, 3), n.from(0, 4), n.from(0, 3), n.from(0, 4))
		x := hostileEdges[n.from(0, 22)]
		switch i % 7 {
		case 1:
			most = x
		case 2:
			s = seam(0, x, 0, 1)
		case 3:
			p.Openings = x
		case 4:
			if len(p.Seams) > 0 {
				p.Seams[n.from(0, int64(len(p.Seams))-1)].B = x
			}
		case 5:
			if open := openOf(p); len(open) > 1 {
				s = seam(open[0][0], open[0][1], open[1][0], open[1][1])
			}
		}
		p, other := guardPattern(p), guardPattern(p)
		if i%2 == 0 {
			other = guardPattern(pair("0.0=1.0", 1))
		}
		pBefore, otherBefore := allOfPattern(p), allOfPattern(other)
		first := fmt.Sprintf("%#v", patternCalls(p, other, s, most))
		same(t, "pattern", allOfPattern(p), pBefore)
		same(t, "other pattern", allOfPattern(other), otherBefore)
		same(t, "second call", fmt.Sprintf("%#v", patternCalls(p, other, s, most)), first)
		same(t, "call with copies", fmt.Sprintf("%#v", patternCalls(like(p), like(other), s, most)), first)
	}
}

// TestPatternsReturnForAll is for promise 1: each number with each hostile number; nil lists are like empty ones.
func TestPatternsReturnForAll(t *testing.T) {
	empty := impl.Pattern{Pieces: []impl.Piece{}, Seams: []impl.Seam{}}
	for _, x := range hostileEdges {
		for _, y := range hostileEdges {
			s := seam(x, y, y, x)
			list := []impl.Pattern{pattern("a 100 200 103 200, b 5 6 7", "0.0=0.2", x), {Pieces: []impl.Piece{piece("a", x, y, 1), piece("b", 1, y, x, 1)}, Seams: seamsOf("0.0=1.0"), Openings: 1}, pair("0.0=1.0", y)}
			for _, more := range []impl.Seam{s, seam(0, x, 0, y), seam(x, 0, y, 0), seam(0, x, y, 0), seam(x, 1, 0, y)} {
				p := pair("0.2=1.1", 1)
				p.Seams = append(p.Seams, more)
				list = append(list, p)
				patternCalls(pair("0.2=1.1", 1), p, more, 5)
			}
			for i, p := range list {
				patternCalls(p, list[(i+1)%len(list)], s, y)
			}
			empty.Openings = x
			same(t, "results", fmt.Sprint(patternCalls(empty, empty, s, y)), fmt.Sprint(patternCalls(impl.Pattern{Openings: x}, impl.Pattern{Openings: x}, s, y)))
			p, q := many(2), many(2)
			q.Seams = []impl.Seam{}
			same(t, "results without seams", fmt.Sprint(patternCalls(q, p, s, y)), fmt.Sprint(patternCalls(p, q, s, y)))
		}
	}
	large := impl.Pattern{Pieces: make([]impl.Piece, 100000), Seams: make([]impl.Seam, 100000)}
	patternCalls(large, large, impl.Seam{}, 0)
	large = impl.Pattern{Pieces: []impl.Piece{piece("a", make([]int64, 100000)...)}}
	patternCalls(large, large, impl.Seam{}, 0)
	large = impl.Pattern{Pieces: many(2).Pieces, Seams: make([]impl.Seam, 100000)}
	patternCalls(large, large, impl.Seam{}, 0)
}

// TestResultsOfPatternsAreNew is for promise 1: what a caller does with a result changes neither an argument nor another result, nor another part of the same one.
func TestResultsOfPatternsAreNew(t *testing.T) {
	// Both pieces have the same edges in the same memory.
	edges := []int64{5, 6, 7}
	p := guardPattern(impl.Pattern{Seams: seamsOf("0.0=1.0"), Openings: 1})
	p.Pieces = []impl.Piece{piece("a", edges...), piece("b", edges...)}
	want := pattern("a 5 6 7, b 5 6 7", "0.0=1.0 0.1=1.1", 1)
	for range 2 {
		more, _ := impl.AddSeam(p, want.Seams[1])
		again, _ := impl.AddSeam(p, want.Seams[1])
		same(t, "more", []any{more, again}, []any{want, want})
		spoil(more.Pieces[0].Edges)
		same(t, "other piece", more.Pieces[1], want.Pieces[1])
		for i := range more.Pieces[:cap(more.Pieces)] {
			more.Pieces[:cap(more.Pieces)][i] = piece("spoilt")
		}
		for i := range more.Seams[:cap(more.Seams)] {
			more.Seams[:cap(more.Seams)][i] = seam(9, 9, 9, 9)
		}
		same(t, "more again", again, want)
		same(t, "behind the seams", p.Seams[:4][1], seam(7, 7, 7, 7))

		open, _ := impl.OpenEdges(p)
		same(t, "open edges", open, [][]int64{{0, 1}, {0, 2}, {1, 1}, {1, 2}})
		spoil(open[0])
		same(t, "other open edges", open[1:], [][]int64{{0, 2}, {1, 1}, {1, 2}})
		differences, _ := impl.SeamDifferences(p)
		openings, _ := impl.OpeningsOf(p)
		parts, _ := impl.PartsOf(p)
		same(t, "lists", []any{differences, openings, parts}, []any{[]int64{0}, []int64{26}, []int64{0, 0}})
		for _, list := range [][]int64{differences, openings, parts} {
			spoil(list)
		}
		read, _ := impl.ReadPiece("a 5 6 7")
		same(t, "piece", read, piece("a", 5, 6, 7))
		spoil(read.Edges)
		same(t, "pattern", []any{p, edges}, []any{pattern("a 5 6 7, b 5 6 7", "0.0=1.0", 1), []int64{5, 6, 7}})
	}
}

// stripCalls calls every function of chapter 9 that takes edges and returns the results.
func stripCalls(list, other []impl.Strip, k, allow int64) []any {
	lengths, one := impl.CutLengths(list)
	around, cut, two := impl.RoundStrips(list)
	changed, three := impl.AddAllow(list, k, allow)
	twice, four := impl.AllowArea(list)
	results := []any{impl.ValidStrips(list), impl.SameStrips(list, other), impl.SameStrips(other, list), plain(lengths), one, around, cut, two, plain(changed), three, twice, four}
	for _, x := range list {
		text := impl.StripText(x)
		read, ok := impl.ReadStrip(text)
		results = append(results, text, read, ok)
	}
	return results
}

// hostileAllows are lengths, allowances, shares, folds and numbers of edges at both ends of ranges, just beyond them and far from them.
var hostileAllows = []int64{math.MinInt64, math.MinInt64 + 1, -1 << 32, -201, -1, 0, 1, 2, 3, 11, 12, 13, 100, 101, 200, 201, 999, 1000, 4999, 5000, 5001, 1 << 32, 1<<32 + 1, math.MaxInt64 - 1, math.MaxInt64}

// TestStripsArePure is for promise 1: valid and invalid arguments, called twice, with arguments that must stay as they are up to their capacity.
func TestStripsArePure(t *testing.T) {
	var n numbers
	for i := range int64(2000) {
		list := stripsOf(&n, i%15, 5000)
		count := int64(len(list))
		k, allow := n.from(-1, count), n.from(0, 200)
		switch i % 5 {
		case 1:
			k = hostileAllows[n.from(0, 24)]
		case 2:
			allow = hostileAllows[n.from(0, 24)]
		case 3:
			if count > 0 {
				*fieldsOf(&list[n.from(0, count-1)])[i%4] = hostileAllows[n.from(0, 24)]
			}
		}
		other := slices.Clone(list[:count-count%2])
		list, other = guard(list, strip(7, 7, 7, 7)), guard(other, strip(8, 8, 8, 8))
		listBefore, otherBefore := slices.Clone(list[:count+3]), slices.Clone(other[:len(other)+3])
		first := fmt.Sprintf("%#v", stripCalls(list, other, k, allow))
		same(t, "edges", list[:count+3], listBefore)
		same(t, "other edges", other[:len(other)+3], otherBefore)
		same(t, "second call", fmt.Sprintf("%#v", stripCalls(list, other, k, allow)), first)
		same(t, "call with copies", fmt.Sprintf("%#v", stripCalls(slices.Clip(listBefore[:count]), slices.Clip(otherBefore[:len(other)]), k, allow)), first)
	}
}

// notchCalls calls every function of chapter 9 that takes numbers only and returns the results.
func notchCalls(a, b int64, left, right []int64, most int64) []any {
	notches, one := impl.NotchesOf(a, left)
	fault, two := impl.NotchFault(a, b, left, right, most)
	ease, three := impl.EaseOf(a, b, right)
	rest, four := impl.FoldLength(b, left, most)
	return []any{plain(notches), one, fault, two, plain(ease), three, rest, four}
}

// TestNotchesArePure is for promise 1: valid and invalid arguments, called twice, with arguments that must stay as they are up to their capacity.
func TestNotchesArePure(t *testing.T) {
	var n numbers
	for i := range int64(3000) {
		a, b, most := n.from(1, 5000), n.from(1, 5000), n.from(0, []int64{5, 100, 5000}[i%3])
		left, right := placesOf(&n, min(a, i/3%12), 0, min(a, 999)), placesOf(&n, min(b, i/3%12), 0, min(b, 999))
		x := hostileAllows[n.from(0, 24)]
		switch i % 7 {
		case 1:
			a = x
		case 2:
			b = x
		case 3:
			most = x
		case 4:
			left = append(left, x)
		case 5:
			right = append(right, x)
		case 6:
			left = lengthsOf(&n, i%11, 0, 200)
		}
		left, right = guard(left, 77), guard(right, 78)
		leftBefore, rightBefore := slices.Clone(left[:len(left)+3]), slices.Clone(right[:len(right)+3])
		first := fmt.Sprintf("%#v", notchCalls(a, b, left, right, most))
		same(t, "left", left[:len(left)+3], leftBefore)
		same(t, "right", right[:len(right)+3], rightBefore)
		same(t, "second call", fmt.Sprintf("%#v", notchCalls(a, b, left, right, most)), first)
		same(t, "call with copies", fmt.Sprintf("%#v", notchCalls(a, b, slices.Clip(leftBefore[:len(left)]), slices.Clip(rightBefore[:len(right)]), most)), first)
	}
}

// TestAllowancesReturnForAll is for promise 1: each number with each hostile number; nil lists are like empty ones.
func TestAllowancesReturnForAll(t *testing.T) {
	for _, x := range hostileAllows {
		for _, y := range hostileAllows {
			p, q := strip(x, y, x, y), strip(y, x, y, x)
			lists := [][]impl.Strip{{p}, {p, q}, {p, q, p}, {p, p, p}, {q, strip(1, 0, x, y), p}, {strip(400, 30, 12, 8), strip(x, 30, 12, 8), strip(400, y, 12, 8)}, {strip(400, 30, x, 8), strip(400, 30, 12, 8), strip(400, 30, 12, y)}, goodStrips(), slices.Repeat([]impl.Strip{p}, 13)}
			for i, list := range lists {
				stripCalls(list, lists[(i+1)%len(lists)], x, y)
			}
			notchCalls(x, y, []int64{x, y}, []int64{y, x}, x)
			notchCalls(400, 410, []int64{x, y}, []int64{103, 205}, y)
			notchCalls(x, y, []int64{0, 1}, []int64{0, 1}, 0)
			notchCalls(400, x, []int64{100, 200}, []int64{y}, y)
			notchCalls(5000, y, []int64{0, x, y}, []int64{0, y, x}, 5000)
			same(t, "results of edges", fmt.Sprint(stripCalls([]impl.Strip{}, []impl.Strip{}, x, y)), fmt.Sprint(stripCalls(nil, nil, x, y)))
			same(t, "results of notches", fmt.Sprint(notchCalls(x, y, []int64{}, []int64{}, x)), fmt.Sprint(notchCalls(x, y, nil, nil, x)))
			same(t, "results of an edge without notches", fmt.Sprint(notchCalls(400, 410, []int64{}, nil, x)), fmt.Sprint(notchCalls(400, 410, nil, []int64{}, x)))
		}
	}
	large, many := make([]impl.Strip, 100000), make([]int64, 100000)
	stripCalls(large, large, 99999, 0)
	notchCalls(400, 410, many, many, 0)
	for i := range many {
		many[i] = int64(i)
	}
	notchCalls(400, 410, many, many, 0)
}

// TestResultsOfAllowancesAreNew is for promise 1: what a caller does with a result changes neither an argument nor another result, also where the result is equal to the argument.
func TestResultsOfAllowancesAreNew(t *testing.T) {
	edges, shares := strips("400+0(12,8) 300+0(5,5) 500+0(0,0)"), []int64{250, 500}
	list, given := guard(edges, strip(7, 7, 7, 7)), guard(shares, 77)
	for range 2 {
		changed, _ := impl.AddAllow(list, 1, 0)
		again, _ := impl.AddAllow(list, 1, 0)
		same(t, "edges with another allowance", []any{changed, again}, []any{edges, edges})
		for i := range changed[:cap(changed)] {
			changed[:cap(changed)][i] = strip(9, 9, 9, 9)
		}
		same(t, "edges", []any{list, again}, []any{edges, edges})

		lengths, _ := impl.CutLengths(list)
		notches, _ := impl.NotchesOf(1000, given)
		ease, _ := impl.EaseOf(1000, 2000, given)
		same(t, "lists", []any{lengths, notches, ease}, []any{[]int64{400, 300, 500}, shares, []int64{250, 250, 500}})
		for _, result := range [][]int64{lengths, notches, ease} {
			spoil(result)
			same(t, "shares", given[:4], []int64{250, 500, 77, 77})
		}
	}
}

// hideCalls calls every function of chapter 10 and returns the results.
func hideCalls(rows []string, list []impl.Cut, plan []int64, row, column, quality int64) []any {
	var c impl.Cut
	if len(list) > 0 {
		c = list[0]
	}
	at, one := impl.QualityAt(rows, row, column)
	places, two := impl.PlacesOf(rows, c)
	width, height, three := impl.LargestCut(rows, quality)
	fault, four := impl.PlanFault(rows, list, plan)
	worth, five := impl.PlanWorth(rows, list, plan)
	best, most, six := impl.BestPlan(rows, list)
	share, seven := impl.UsedShare(rows, list, plan)
	mirrored, eight := impl.MirrorHide(rows)
	lines, nine := impl.PlanLines(rows, list, plan)
	return []any{impl.ValidHide(rows), impl.ValidCuts(list), at, one, plain(places), two, width, height, three, fault, four, worth, five, plain(best), most, six, share, seven, plain(mirrored), eight, plain(lines), nine}
}

// hostileFields are fields, rows, columns, qualities and numbers of pieces at both ends of ranges, just beyond them and far from them.
var hostileFields = []int64{math.MinInt64, math.MinInt64 + 1, -1 << 32, -36, -2, -1, 0, 1, 2, 3, 4, 5, 6, 7, 35, 36, 37, 63, 64, 65, 1000, 1001, 1 << 32, 1<<32 + 1, math.MaxInt64 - 1, math.MaxInt64}

// TestHidesArePure is for promise 1: valid and invalid arguments, called twice, with arguments that must stay as they are up to their capacity.
func TestHidesArePure(t *testing.T) {
	var n numbers
	for i, rows := range slices.Concat(manyHides(&n, 60), badHides()) {
		list := cutsOf(&n, int64(i)%6, 3, 3, 1000)
		var plan []int64
		for range list {
			plan = append(plan, n.from(-1, 35))
		}
		row, column, quality, x := n.from(0, 5), n.from(0, 5), n.from(1, 3), hostileFields[n.from(0, 25)]
		switch i % 8 {
		case 1:
			row = x
		case 2:
			column = x
		case 3:
			quality = x
		case 4:
			plan = append(plan, x)
		case 5:
			if len(list) > 0 {
				plan[n.from(0, int64(len(plan))-1)] = x
			}
		case 6:
			if len(list) > 0 {
				*numbersOfCut(&list[n.from(0, int64(len(list))-1)])[i/8%4] = x
			}
		case 7:
			if impl.ValidHide(rows) && impl.ValidCuts(list) {
				plan, _, _ = impl.BestPlan(rows, list)
			}
		}
		rows, list, plan = guard(rows, "mark"), guard(list, cut(7, 7, 7, 7)), guard(plan, 77)
		rowsBefore, listBefore, planBefore := slices.Clone(rows[:len(rows)+3]), slices.Clone(list[:len(list)+3]), slices.Clone(plan[:len(plan)+3])
		first := fmt.Sprintf("%#v", hideCalls(rows, list, plan, row, column, quality))
		same(t, "rows", rows[:len(rows)+3], rowsBefore)
		same(t, "pieces", fmt.Sprint(list[:len(list)+3]), fmt.Sprint(listBefore))
		same(t, "plan", plan[:len(plan)+3], planBefore)
		same(t, "second call", fmt.Sprintf("%#v", hideCalls(rows, list, plan, row, column, quality)), first)
		same(t, "call with copies", fmt.Sprintf("%#v", hideCalls(slices.Clip(rowsBefore[:len(rows)]), slices.Clip(listBefore[:len(list)]), slices.Clip(planBefore[:len(plan)]), row, column, quality)), first)
	}
}

// TestHidesReturnForAll is for promise 1: each number with each hostile number; nil lists are like empty ones.
func TestHidesReturnForAll(t *testing.T) {
	var n numbers
	hides := [][]string{{"a"}, {"x"}, {"aab"}, {"a", "b"}, strings.Fields(full), strings.Fields("aab xca"), {"ad"}, nil}
	for _, x := range hostileFields {
		for _, y := range hostileFields {
			lists := [][]impl.Cut{{cut(x, y, x, y)}, {cut(1, 1, 1, 1), cut(y, x, 1, 1)}, {cut(1, x, 3, 5), cut(y, 1, 3, 5)}, {cut(1, 1, x, y), cut(1, 1, 1, y)}, cuts("2x1q3=5 1x1q2=4"), cuts("1x1q1=0 6x6q3=1000 1x6q1=3 6x1q1=3")}
			plans := [][]int64{{x}, {x, y}, {y, x}, {x, y, x, y}, {0, x}, {y, -1}, {-1, x, y, 0}, nil}
			for _, rows := range hides {
				hideCalls(rows, lists[n.from(0, 5)], plans[n.from(0, 7)], x, y, x)
				hideCalls(rows, lists[n.from(0, 3)], plans[n.from(0, 7)], 0, x, y)
				hideCalls(rows, lists[5], plans[3+3*n.from(0, 1)], y, 0, 3)
				hideCalls(rows, lists[4], plans[n.from(0, 5)], y, x, 1)
				same(t, "results", fmt.Sprint(hideCalls(rows, []impl.Cut{}, []int64{}, x, y, x)), fmt.Sprint(hideCalls(rows, nil, nil, x, y, x)))
			}
			same(t, "results without rows", fmt.Sprint(hideCalls([]string{}, lists[4], plans[1], x, y, x)), fmt.Sprint(hideCalls(nil, lists[4], plans[1], x, y, x)))
		}
	}
	long := strings.Repeat("a", 100000)
	for _, rows := range [][]string{make([]string, 100000), {long}, slices.Repeat([]string{long}, 6), slices.Repeat([]string{"aaaaaa"}, 100000), strings.Fields(full)} {
		hideCalls(rows, make([]impl.Cut, 100000), make([]int64, 100000), 99999, 99999, 1)
		hideCalls(rows, slices.Repeat(cuts("1x1q1=1"), 100000), make([]int64, 4), 0, 0, 1)
		hideCalls(rows, cuts("1x1q1=1"), make([]int64, 100000), 0, 0, 1)
	}
}

// TestResultsOfHidesAreNew is for promise 1: what a caller does with a result changes neither an argument nor another result, also where the result is equal to the argument.
func TestResultsOfHidesAreNew(t *testing.T) {
	rows, list, plan := guard([]string{"aba", "xax"}, "mark"), guard(cuts("1x1q3=5 1x1q3=4"), cut(7, 7, 7, 7)), guard([]int64{0, 2}, 77)
	for range 2 {
		places, _ := impl.PlacesOf(rows, list[0])
		best, _, _ := impl.BestPlan(rows, list)
		again, _, _ := impl.BestPlan(rows, list)
		same(t, "lists", []any{places, best, again}, []any{[]int64{0, 2, 4}, plan, plan})
		spoil(places)
		spoil(best)
		same(t, "plans", []any{plan[:5], again}, []any{[]int64{0, 2, 77, 77, 77}, []int64{0, 2}})

		mirrored, _ := impl.MirrorHide(rows)
		lines, _ := impl.PlanLines(rows, list, []int64{-1, -1})
		drawn, _ := impl.PlanLines(rows, list, plan)
		same(t, "rows", []any{mirrored, lines, drawn}, []any{rows, rows, []string{"0b1", "xax"}})
		for _, result := range [][]string{mirrored, lines, drawn} {
			for i := range result[:cap(result)] {
				result[:cap(result)][i] = "spoilt"
			}
			same(t, "hide", rows[:5], []string{"aba", "xax", "mark", "mark", "mark"})
		}
	}
}

// TestHidesSideBySide is for promise 1: calls at the same time return what they return alone, and leave nothing behind that goes on.
func TestHidesSideBySide(t *testing.T) {
	var n numbers
	before := runtime.NumGoroutine()
	for i, rows := range manyHides(&n, 4) {
		list, plan := somePieces(&n, rows, int64(i)%5, int64(i)), repeated(-1, i%5)
		want := fmt.Sprint(hideCalls(rows, list, plan, 0, 0, 1))
		results := make(chan string)
		for range 8 {
			go func() { results <- fmt.Sprint(hideCalls(rows, list, plan, 0, 0, 1)) }()
		}
		for range 8 {
			same(t, "result", <-results, want)
		}
	}
	// What has done its last step may still need a moment to end.
	for range 1000 {
		if runtime.NumGoroutine() <= before {
			return
		}
		time.Sleep(10 * time.Millisecond)
	}
	t.Errorf("%d goroutines go on", runtime.NumGoroutine()-before)
}

// nestCalls calls every function of chapter 11 and returns the results.
func nestCalls(list, other []impl.Block, roll int64, rows []int64) []any {
	fault, one := impl.RowsFault(list, roll, rows)
	length, two := impl.HeightOfRows(list, roll, rows)
	first, three := impl.FirstRows(list, roll)
	tall, four := impl.TallRows(list, roll)
	best, five := impl.BestRows(list, roll)
	least, six := impl.LeastHeight(list, roll)
	bound, seven := impl.HeightBound(list, roll)
	waste, eight := impl.WasteOfRows(list, roll, rows)
	turned, nine := impl.TurnBlocks(list, roll)
	places, ten := impl.PlacesOnRoll(list, roll, rows)
	return []any{impl.ValidBlocks(list, roll), impl.SameBlocks(list, other), fault, one, length, two, plain(first), three, plain(tall), four, plain(best), five, least, six, bound, seven, waste, eight, plain(turned), nine, plain(places), ten, impl.BlocksText(list, roll)}
}

// hostileBlocks are Widths, Heights, rolls and rows at both ends of ranges, just beyond them and far from them.
var hostileBlocks = []int64{math.MinInt64, math.MinInt64 + 1, -1 << 32, -5000, -1, 0, 1, 2, 8, 9, 10, 59, 60, 61, 4999, 5000, 5001, 1 << 32, 1<<32 + 1, math.MaxInt64 - 1, math.MaxInt64}

// TestBlocksArePure is for promise 1: valid and invalid arguments, called twice, with arguments that must stay as they are up to their capacity.
func TestBlocksArePure(t *testing.T) {
	var n numbers
	for i := range int64(3000) {
		roll := manyRolls[i/11%8]
		list := someBlocks(&n, i/88, i%11, roll)
		other := slices.Clone(list)
		rows, x := someRows(&n, len(list)), hostileBlocks[n.from(0, 20)]
		switch i % 7 {
		case 1:
			roll = x
		case 2:
			rows = append(rows, x)
		case 3:
			if len(list) > 0 {
				rows[n.from(0, int64(len(rows))-1)] = x
			}
		case 4:
			if len(list) > 0 {
				list[n.from(0, int64(len(list))-1)].Width = x
			}
		case 5:
			if len(list) > 0 {
				list[n.from(0, int64(len(list))-1)].Height = x
			}
		case 6:
			if impl.ValidBlocks(list, roll) {
				rows, _ = impl.BestRows(list, roll)
			}
		}
		list, other, rows = guard(list, block(7, 7)), guard(other, block(8, 8)), guard(rows, 77)
		listBefore, otherBefore, rowsBefore := slices.Clone(list[:len(list)+3]), slices.Clone(other[:len(other)+3]), slices.Clone(rows[:len(rows)+3])
		first := fmt.Sprintf("%#v", nestCalls(list, other, roll, rows))
		same(t, "blocks", list[:len(list)+3], listBefore)
		same(t, "other blocks", other[:len(other)+3], otherBefore)
		same(t, "rows", rows[:len(rows)+3], rowsBefore)
		same(t, "second call", fmt.Sprintf("%#v", nestCalls(list, other, roll, rows)), first)
		same(t, "call with copies", fmt.Sprintf("%#v", nestCalls(slices.Clip(listBefore[:len(list)]), slices.Clip(otherBefore[:len(other)]), roll, slices.Clip(rowsBefore[:len(rows)]))), first)
	}
}

// TestBlocksReturnForAll is for promise 1: each number with each hostile number; nil lists are like empty ones.
func TestBlocksReturnForAll(t *testing.T) {
	for _, x := range hostileBlocks {
		for _, y := range hostileBlocks {
			lists := [][]impl.Block{{block(x, y)}, {block(1, y), block(x, 1)}, {block(y, 1), block(1, x), block(x, y)}, blocks("30x10 30x8 40x9"), slices.Repeat([]impl.Block{block(x, y)}, 9), slices.Repeat([]impl.Block{block(y, 1)}, 10), slices.Repeat(blocks("1x1"), 9)}
			for i, list := range lists {
				for _, rows := range [][]int64{{x}, {x, y}, {0, x, y}, {x, x, x}, repeated(x, 9), nil} {
					nestCalls(list, lists[(i+1)%len(lists)], y, rows)
					nestCalls(list, list, 60, rows)
				}
			}
			same(t, "results without blocks", fmt.Sprint(nestCalls([]impl.Block{}, []impl.Block{}, x, []int64{})), fmt.Sprint(nestCalls(nil, nil, x, nil)))
			same(t, "results without rows", fmt.Sprint(nestCalls(lists[1], nil, x, []int64{})), fmt.Sprint(nestCalls(lists[1], []impl.Block{}, x, nil)))
		}
	}
	for _, list := range [][]impl.Block{make([]impl.Block, 100000), slices.Repeat(blocks("1x1"), 100000), blocks("1x1")} {
		nestCalls(list, list, 60, make([]int64, 100000))
		nestCalls(list, nil, 5000, []int64{0})
	}
}

// TestResultsOfNestingAreNew is for promise 1: what a caller does with a result changes neither an argument nor another result, also where the result is equal to the argument.
func TestResultsOfNestingAreNew(t *testing.T) {
	list, rows := guard(blocks("30x10 30x8 40x9"), block(7, 7)), guard([]int64{0, 0, 1}, 77)
	for range 2 {
		first, _ := impl.FirstRows(list, 60)
		tall, _ := impl.TallRows(list, 60)
		best, _ := impl.BestRows(list, 60)
		for _, result := range [][]int64{first, tall, best} {
			same(t, "rows", result, []int64{0, 0, 1})
			spoil(result)
		}
		turned, _ := impl.TurnBlocks(list, 60)
		again, _ := impl.TurnBlocks(list, 60)
		same(t, "turned", []any{turned, again}, []any{blocks("30x10 30x8 40x9"), blocks("30x10 30x8 40x9")})
		for i := range turned[:cap(turned)] {
			turned[:cap(turned)][i] = block(9, 9)
		}
		same(t, "blocks", []any{list[:6], again}, []any{blocks("30x10 30x8 40x9 7x7 7x7 7x7"), blocks("30x10 30x8 40x9")})

		places, _ := impl.PlacesOnRoll(list, 60, rows)
		others, _ := impl.PlacesOnRoll(list, 60, rows)
		for i, place := range places {
			spoil(place)
			for k := i + 1; k < len(places); k++ {
				same(t, "place", places[k], others[k])
			}
		}
		same(t, "places", others, [][]int64{{0, 0}, {30, 0}, {0, 10}})
		same(t, "rows", rows[:6], []int64{0, 0, 1, 77, 77, 77})
	}
}

// stretchCalls calls every function of chapter 12 and returns the results.
func stretchCalls(a, b impl.Leather, direction, length, wanted, force, low, high int64, forces []int64) []any {
	stretch, one := impl.StretchOf(a, direction, force)
	under, two := impl.LengthUnder(a, direction, length, force)
	after, three := impl.LengthAfter(a, direction, length, force)
	lengths, four := impl.RunPulls(a, direction, length, forces)
	pull, five := impl.PullFor(a, direction, length, wanted)
	cut, six := impl.CutLength(a, direction, wanted, force)
	best, seven := impl.BestDirection(a, force, low, high)
	most, eight := impl.GreatestPull(a, direction)
	first, second, nine := impl.MatchDirections(a, b)
	return []any{impl.ValidLeather(a), stretch, one, under, two, after, three, plain(lengths), four, pull, five, cut, six, best, seven, most, eight, first, second, nine}
}

// hostilePulls are forces, lengths, directions and numbers of leathers at both ends of ranges, just beyond them and far from them.
var hostilePulls = []int64{math.MinInt64, math.MinInt64 + 1, -1 << 32, -1, 0, 1, 4, 5, 100, 101, 500, 501, 1000, 1001, 10000, 10001, 1 << 32, 1<<32 + 1, math.MaxInt64 - 1, math.MaxInt64}

// TestStretchIsPure is for promise 1: valid and invalid arguments, called twice, with forces that must stay as they are up to their capacity.
func TestStretchIsPure(t *testing.T) {
	var n numbers
	for i := range int64(4000) {
		a, b := leatherOf(&n, []int64{3, 20, 100}[i%3]), leatherOf(&n, 100)
		forces := lengthsOf(&n, i%23, 0, []int64{20, 1000}[i/23%2])
		args := []int64{n.from(0, 4), n.from(1, 10000), n.from(1, 10000), n.from(0, 1000), n.from(0, 250), n.from(250, 500)}
		x := hostilePulls[n.from(0, 19)]
		switch i % 4 {
		case 1:
			args[n.from(0, 5)] = x
		case 2:
			*numbersOfLeather([]*impl.Leather{&a, &b}[i/4%2])[i/8%4] = x
		case 3:
			if len(forces) > 0 {
				forces[n.from(0, int64(len(forces))-1)] = x
			}
		}
		forces = guard(forces, 77)
		before := slices.Clone(forces[:len(forces)+3])
		call := func(forces []int64) string {
			return fmt.Sprintf("%#v", stretchCalls(a, b, args[0], args[1], args[2], args[3], args[4], args[5], forces))
		}
		first := call(forces)
		same(t, "forces", forces[:len(forces)+3], before)
		same(t, "second call", call(forces), first)
		same(t, "call with a copy", call(slices.Clip(before[:len(forces)])), first)
	}
}

// TestStretchReturnsForAll is for promise 1: each number with each hostile number; no forces are like nil.
func TestStretchReturnsForAll(t *testing.T) {
	good := leather(2, 10, 500, 200)
	for _, x := range hostilePulls {
		for _, y := range hostilePulls {
			for _, l := range []impl.Leather{leather(x, y, 500, 200), leather(y, 10, x, 200), leather(2, x, 500, y), leather(2, 10, x, y), leather(x, x, x, x), good, leather(100, 100, 1000, 500), leather(0, 0, 0, 1)} {
				stretchCalls(l, good, x, y, x, y, x, y, []int64{x, y})
				stretchCalls(good, l, 4, x, y, 100, 0, y, []int64{y})
				stretchCalls(l, l, x, 1000, 1100, y, x, 500, []int64{0, x, 0, y})
				stretchCalls(l, l, 0, x, 10000, 0, 0, 500, repeated(y, 20))
				stretchCalls(l, good, 4, 1, y, x, 0, 0, repeated(x, 21))
				same(t, "results without forces", fmt.Sprint(stretchCalls(l, good, x, y, x, y, x, y, []int64{})), fmt.Sprint(stretchCalls(l, good, x, y, x, y, x, y, nil)))
			}
		}
	}
	stretchCalls(good, good, 4, 1000, 1000, 100, 0, 500, make([]int64, 100000))
}

// TestResultsOfStretchAreNew is for promise 1: what a caller does with lengths changes neither the forces nor other lengths, also where all are equal.
func TestResultsOfStretchAreNew(t *testing.T) {
	forces := guard([]int64{50, 50, 50}, 77)
	for range 2 {
		lengths, _ := impl.RunPulls(leather(2, 10, 0, 200), 4, 50, forces)
		again, _ := impl.RunPulls(leather(2, 10, 0, 200), 4, 50, forces)
		spoil(lengths)
		same(t, "lengths", []any{again, forces[:6]}, []any{[]int64{50, 50, 50}, []int64{50, 50, 50, 77, 77, 77}})
	}
}
