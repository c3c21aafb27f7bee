package tests

import (
	"fmt"
	"math"
	"slices"
	"testing"

	"loop.example/g01043/impl"
)

func TestValidFit(t *testing.T) {
	for _, w := range goodFits() {
		same(t, fmt.Sprint("is valid: ", w), impl.ValidFit(w), true)
	}
	for _, w := range badFits() {
		same(t, fmt.Sprint("is valid: ", w), impl.ValidFit(w), false)
	}
}

// goodFits returns valid fits at the ends of all ranges.
func goodFits() []impl.Fit {
	return []impl.Fit{
		fit(80, 120, 20, 1, 2, 2, 1),
		fit(0, 0, 0, 0, 0, 0, 0),
		fit(500, 500, 500, 100, 100, 100, 100),
		fit(0, 500, 500, 0, 100, 0, 100),
		fit(100, 100, 0, 100, 0, 100, 0),
	}
}

// badFits returns fits of which one field is not valid, and the zero one.
func badFits() []impl.Fit {
	weights := []int64{1, 2, 2, 1}
	list := []impl.Fit{{}, fit(0, 0, 0), fit(80, 120, 20, 1), fit(80, 120, 20, 1, 2, 2), fit(80, 120, 20, 1, 2, 2, 1, 1), fit(80, 120, 20, make([]int64, 1000)...)}
	for _, x := range []int64{-1, 121, 500, math.MinInt64, math.MaxInt64} {
		list = append(list, fit(x, 120, 20, weights...))
	}
	for _, x := range []int64{79, 0, -1, 501, math.MinInt64, math.MaxInt64} {
		list = append(list, fit(80, x, 20, weights...))
	}
	list = append(list, fit(501, 501, 20, weights...), fit(-1, -1, 20, weights...))
	for _, x := range []int64{-1, 501, math.MinInt64, math.MaxInt64} {
		list = append(list, fit(80, 120, x, weights...))
	}
	for k := range weights {
		for _, x := range []int64{-1, 101, math.MinInt64, math.MaxInt64} {
			bad := slices.Clone(weights)
			bad[k] = x
			list = append(list, fit(80, 120, 20, bad...))
		}
	}
	return list
}

// TestExampleOfLasts is the example of chapter 4.
func TestExampleOfLasts(t *testing.T) {
	f, ok := impl.ReadFoot("2500/2400/2500/3200")
	same(t, "foot", ok, true)
	x, ok := impl.ReadLast("a 2600/2390/2500/3200 pitch 200")
	same(t, "last", ok, true)
	for _, girth := range []int64{10, 20, 500} {
		cost, code := impl.FitCost(x, f, fit(80, 120, girth, 1, 2, 2, 1))
		same(t, "cost", []any{cost, code}, []any{int64(40), int64(impl.OK)})
	}
}

// refused stands for the cost of a last that is not allowed.
const refused = -1

// checkFit calls both functions of a single last.
func checkFit(t *testing.T, x impl.Last, f impl.Foot, w impl.Fit, cost int64) {
	t.Helper()
	name := fmt.Sprint(x, " for ", f, " with ", w)
	may, code := impl.MayFit(x, f, w)
	same(t, "may fit: "+name, []any{may, code}, []any{cost != refused, int64(impl.OK)})
	want := []any{cost, int64(impl.OK)}
	if cost == refused {
		want = []any{int64(0), int64(impl.ErrTight)}
	}
	got, code := impl.FitCost(x, f, w)
	same(t, "cost of "+name, []any{got, code}, want)
}

// TestRoom has the room at both ends of what is allowed, just beyond them, and below 0.
func TestRoom(t *testing.T) {
	for _, x := range []struct{ low, high, room, cost int64 }{
		{80, 120, 79, refused}, {80, 120, 80, 0}, {80, 120, 81, 7}, {80, 120, 119, 273}, {80, 120, 120, 280}, {80, 120, 121, refused}, {80, 120, -80, refused}, {80, 120, -100, refused}, {80, 120, 0, refused},
		{100, 100, 99, refused}, {100, 100, 100, 0}, {100, 100, 101, refused}, {100, 100, -100, refused},
		{0, 0, 0, 0}, {0, 0, 1, refused}, {0, 0, -1, refused}, {0, 500, 0, 0}, {0, 500, 500, 3500}, {0, 500, 501, refused}, {0, 500, -1, refused},
		{500, 500, 500, 0}, {500, 500, 499, refused}, {500, 500, 501, refused}, {0, 500, 4500, refused}, {0, 500, -4500, refused},
	} {
		length := max(500, 500-x.room)
		checkFit(t, last("a", length+x.room, 2400, 2500, 3200, 200), long(length), fit(x.low, x.high, 0, 7, 0, 0, 0), x.cost)
	}
}

// TestGirths has each girth, less and greater by just what is allowed, and by one more.
func TestGirths(t *testing.T) {
	weights := []int64{0, 3, 5, 7}
	for k := 1; k < 4; k++ {
		for _, x := range []struct{ girth, off int64 }{{0, 0}, {0, 1}, {1, 1}, {1, 2}, {20, 0}, {20, 1}, {20, 19}, {20, 20}, {20, 21}, {20, 500}, {499, 499}, {499, 500}, {500, 499}, {500, 500}, {500, 501}} {
			for _, sign := range []int64{-1, 1} {
				made := last("a", 2600, 2400, 2500, 3200, 200)
				*measuresOfLast(&made)[k] += sign * x.off
				cost := weights[k] * x.off
				if x.off > x.girth {
					cost = refused
				}
				checkFit(t, made, long(2500), fit(100, 100, x.girth, weights...), cost)
			}
		}
	}
}

func TestFitCost(t *testing.T) {
	low, high := foot(500, 500, 500, 500), foot(4500, 4500, 4500, 4500)
	for _, x := range []struct {
		last impl.Last
		foot impl.Foot
		fit  impl.Fit
		cost int64
	}{
		{last("a", 2600, 2390, 2500, 3200, 200), long(2500), fit(80, 120, 20, 1, 2, 2, 1), 40},
		{last("a", 2600, 2390, 2500, 3200, 0), long(2500), fit(80, 120, 20, 1, 2, 2, 1), 40},
		{last("a", 2600, 2390, 2500, 3200, 1000), long(2500), fit(80, 120, 20, 1, 2, 2, 1), 40},
		{last("a", 2600, 2390, 2500, 3200, 200), long(2500), fit(80, 120, 9, 1, 2, 2, 1), refused},
		{last("a", 2600, 2390, 2500, 3200, 200), long(2500), fit(0, 0, 20, 1, 2, 2, 1), refused},
		{last("a", 2603, 2405, 2493, 3211, 200), long(2500), fit(100, 110, 11, 2, 3, 5, 7), 6 + 15 + 35 + 77},
		{last("a", 2603, 2395, 2507, 3189, 200), long(2500), fit(100, 110, 11, 2, 3, 5, 7), 6 + 15 + 35 + 77},
		{last("a", 2603, 2405, 2493, 3211, 200), long(2500), fit(100, 110, 10, 2, 3, 5, 7), refused},
		{last("a", 1000, 1000, 1000, 1000, 200), low, fit(0, 500, 500, 100, 100, 100, 100), 200000},
		{last("a", 5000, 5000, 5000, 5000, 200), high, fit(0, 500, 500, 100, 100, 100, 100), 200000},
		{last("a", 5000, 4000, 4000, 4000, 200), high, fit(0, 500, 500, 100, 100, 100, 100), 200000},
		{last("a", 5000, 4000, 4000, 4000, 200), high, fit(500, 500, 500, 100, 100, 100, 100), 150000},
		{last("a", 1000, 1000, 1000, 1000, 200), low, fit(0, 500, 500, 0, 0, 0, 0), 0},
		{last("a", 1000, 1000, 1000, 1000, 200), low, fit(0, 500, 500, 100, 0, 0, 0), 50000},
		{last("a", 1000, 1000, 1000, 1000, 200), low, fit(0, 500, 500, 0, 100, 0, 0), 50000},
		{last("a", 1000, 1000, 1000, 1000, 200), low, fit(0, 500, 500, 0, 0, 100, 0), 50000},
		{last("a", 1000, 1000, 1000, 1000, 200), low, fit(0, 500, 500, 0, 0, 0, 100), 50000},
		{last("a", 5000, 5000, 5000, 5000, 200), low, fit(0, 500, 500, 0, 0, 0, 0), refused},
		{last("a", 500, 500, 500, 500, 200), high, fit(0, 500, 500, 0, 0, 0, 0), refused},
		// Less room than there must be is no gain that could make up for a girth.
		{last("a", 2579, 2400, 2500, 3200, 200), long(2500), fit(80, 120, 20, 1, 2, 2, 1), refused},
	} {
		checkFit(t, x.last, x.foot, x.fit, x.cost)
	}
}

// ranking is what the functions of lists return for a foot: the allowed lasts, and these by their costs.
type ranking struct{ allowed, ranked []int64 }

func checkRanking(t *testing.T, list []impl.Last, f impl.Foot, w impl.Fit, want ranking) {
	t.Helper()
	name := fmt.Sprint(" for ", f, " of ", list, " with ", w)
	allowed, code := impl.AllowedLasts(list, f, w)
	same(t, "allowed lasts"+name, []any{allowed, code}, []any{want.allowed, int64(impl.OK)})
	ranked, code := impl.RankLasts(list, f, w)
	same(t, "ranked lasts"+name, []any{ranked, code}, []any{want.ranked, int64(impl.OK)})
	best := []any{int64(0), int64(impl.ErrTight)}
	if len(want.ranked) > 0 {
		best = []any{want.ranked[0], int64(impl.OK)}
	}
	at, code := impl.BestLast(list, f, w)
	same(t, "best last"+name, []any{at, code}, best)
	at, code = impl.PairLast(list, f, f, w)
	same(t, "best last for two such feet"+name, []any{at, code}, best)
}

// lengthy returns lasts that differ from the foot long(2500) by their lengths only.
func lengthy(lengths ...int64) []impl.Last {
	var list []impl.Last
	for i, x := range lengths {
		list = append(list, last(numbered(int64(i)), x, 2400, 2500, 3200, 200))
	}
	return list
}

func TestRankLasts(t *testing.T) {
	w, free := fit(80, 120, 20, 1, 2, 2, 1), fit(80, 120, 20, 0, 0, 0, 0)
	girths := []impl.Last{last("a", 2580, 2420, 2500, 3200, 0), last("b", 2580, 2379, 2500, 3200, 0), last("c", 2580, 2400, 2480, 3200, 0), last("d", 2580, 2400, 2500, 3220, 0), last("e", 2620, 2400, 2500, 3200, 0), last("f", 2581, 2400, 2501, 3202, 1000)}
	for _, x := range []struct {
		list []impl.Last
		fit  impl.Fit
		want ranking
	}{
		{nil, w, ranking{}},
		{[]impl.Last{}, w, ranking{}},
		{lengthy(2580), w, ranking{[]int64{0}, []int64{0}}},
		{lengthy(2579), w, ranking{}},
		{lengthy(2579, 2621, 2500, 2400, 5000, 500), w, ranking{}},
		{lengthy(2620, 2600, 2580), w, ranking{[]int64{0, 1, 2}, []int64{2, 1, 0}}},
		{lengthy(2580, 2600, 2620), w, ranking{[]int64{0, 1, 2}, []int64{0, 1, 2}}},
		{lengthy(2621, 2600, 2579, 2580, 2620), w, ranking{[]int64{1, 3, 4}, []int64{3, 1, 4}}},
		{lengthy(2600, 2590, 2600, 2590, 2600), w, ranking{[]int64{0, 1, 2, 3, 4}, []int64{1, 3, 0, 2, 4}}},
		{lengthy(2620, 2600, 2579, 2580), free, ranking{[]int64{0, 1, 3}, []int64{0, 1, 3}}},
		{girths, w, ranking{[]int64{0, 2, 3, 4, 5}, []int64{5, 3, 0, 2, 4}}},
		{girths, free, ranking{[]int64{0, 2, 3, 4, 5}, []int64{0, 2, 3, 4, 5}}},
		{girths, fit(80, 80, 20, 9, 1, 1, 0), ranking{[]int64{0, 2, 3}, []int64{3, 0, 2}}},
		{girths, fit(80, 120, 2, 1, 2, 2, 1), ranking{[]int64{4, 5}, []int64{5, 4}}},
		{girths, fit(80, 120, 500, 0, 100, 0, 0), ranking{[]int64{0, 1, 2, 3, 4, 5}, []int64{2, 3, 4, 5, 0, 1}}},
		{girths, fit(82, 119, 500, 0, 100, 0, 0), ranking{}},
	} {
		checkRanking(t, x.list, long(2500), x.fit, x.want)
	}
}

// TestEqualCosts has lists so long that a sort that does not keep the order of equal costs would show it.
func TestEqualCosts(t *testing.T) {
	w := fit(80, 120, 20, 1, 2, 2, 1)
	var all []int64
	for i := range int64(30) {
		all = append(all, i)
	}
	for count := range 31 {
		checkRanking(t, lengthy(slices.Repeat([]int64{2590}, count)...), long(2500), w, ranking{all[:count], all[:count]})
	}
	for costs := int64(2); costs < 16; costs++ {
		var lengths, ranked []int64
		for i := range int64(30) {
			lengths = append(lengths, 2580+(costs-1-i%costs))
		}
		for cost := range costs {
			for i := costs - 1 - cost; i < 30; i += costs {
				ranked = append(ranked, i)
			}
		}
		checkRanking(t, lengthy(lengths...), long(2500), w, ranking{all, ranked})
	}
}

// TestEqualCostsOfDifferentLasts has costs that are equal though all lasts differ: longer by 2 for each tenth of a millimetre at the ball.
func TestEqualCostsOfDifferentLasts(t *testing.T) {
	var list []impl.Last
	var all []int64
	for i := range int64(21) {
		list = append(list, last(numbered(i), 2620-2*i, 2400+i*(1-i%2*2), 2500, 3200, 10*i))
		all = append(all, i)
	}
	checkRanking(t, list, long(2500), fit(80, 120, 20, 1, 2, 2, 1), ranking{all, all})
	slices.Reverse(list)
	for i := range list {
		list[i].Name = numbered(int64(i))
	}
	checkRanking(t, list, long(2500), fit(80, 120, 20, 1, 2, 2, 1), ranking{all, all})
}

func TestPairLast(t *testing.T) {
	w := fit(80, 120, 20, 1, 2, 2, 1)
	two := []impl.Last{last("a", 2600, 2390, 2500, 3200, 200), last("b", 2590, 2400, 2500, 3200, 100)}
	const none = -1
	for _, x := range []struct {
		list        []impl.Last
		left, right impl.Foot
		fit         impl.Fit
		want        int64
	}{
		{two, long(2500), long(2510), w, 1},
		{two, long(2500), long(2511), w, 0},
		{two, foot(2500, 2390, 2500, 3200), foot(2510, 2380, 2500, 3200), w, 0},
		{two, long(2500), foot(2510, 2380, 2500, 3200), w, 1},
		{nil, long(2500), long(2510), w, none},
		{two, long(500), long(500), w, none},
		// Each foot has a last, but they have none together.
		{lengthy(2580, 2640), long(2500), long(2560), w, none},
		{lengthy(2580, 2620), long(2500), long(2541), w, none},
		{lengthy(2580, 2620), long(2500), long(2540), w, 1},
		{[]impl.Last{last("a", 2600, 2420, 2500, 3200, 0), last("b", 2600, 2380, 2500, 3200, 0)}, foot(2500, 2440, 2500, 3200), foot(2500, 2360, 2500, 3200), w, none},
		// The best last of neither foot is the best one for both.
		{lengthy(2580, 2600, 2611), long(2500), long(2520), w, 1},
		{[]impl.Last{last("a", 2600, 2400, 2500, 3200, 0), last("b", 2600, 2409, 2500, 3200, 0), last("c", 2600, 2420, 2500, 3200, 0)}, long(2500), foot(2500, 2420, 2500, 3200), fit(100, 100, 20, 0, 1, 0, 0), 0},
		// The first one of several with the same sum, though the single costs differ.
		{[]impl.Last{last("a", 2600, 2430, 2500, 3200, 0), last("b", 2600, 2413, 2500, 3200, 0), last("c", 2600, 2407, 2500, 3200, 0), last("d", 2600, 2410, 2500, 3200, 0)}, long(2500), foot(2500, 2420, 2500, 3200), fit(100, 100, 20, 0, 1, 0, 0), 1},
		{lengthy(2600, 2600, 2600), long(2500), long(2510), w, 0},
		{lengthy(2520, 2600, 2600), long(2500), long(2510), w, 1},
		{two, long(2500), long(2510), fit(80, 120, 20, 0, 0, 0, 0), 0},
		// The greatest sum.
		{[]impl.Last{last("a", 1000, 1000, 1000, 1000, 0)}, foot(500, 500, 500, 500), foot(500, 1500, 1500, 1500), fit(0, 500, 500, 100, 100, 100, 100), 0},
	} {
		want := []any{x.want, int64(impl.OK)}
		if x.want == none {
			want = []any{int64(0), int64(impl.ErrTight)}
		}
		name := fmt.Sprint("best last for ", x.left, " and ", x.right, " of ", x.list, " with ", x.fit)
		at, code := impl.PairLast(x.list, x.left, x.right, x.fit)
		same(t, name, []any{at, code}, want)
		at, code = impl.PairLast(x.list, x.right, x.left, x.fit)
		same(t, name+", the other way round", []any{at, code}, want)
	}
}

// costOf returns the cost of a last for a foot as the document defines it, and whether the last is allowed.
func costOf(x impl.Last, f impl.Foot, w impl.Fit) (int64, bool) {
	absolute := func(n int64) int64 { return int64(math.Abs(float64(n))) }
	room, ball, instep, heel := x.Length-f.Length, absolute(x.Ball-f.Ball), absolute(x.Instep-f.Instep), absolute(x.Heel-f.Heel)
	allowed := room >= w.MinRoom && room <= w.MaxRoom && ball <= w.Girth && instep <= w.Girth && heel <= w.Girth
	return w.Weights[0]*(room-w.MinRoom) + w.Weights[1]*ball + w.Weights[2]*instep + w.Weights[3]*heel, allowed
}

// searchedRanking looks for the least cost again and again; the first one of several is taken first.
func searchedRanking(list []impl.Last, f impl.Foot, w impl.Fit) (ranking, bool) {
	var r ranking
	left, ties := map[int64]int64{}, false
	for i, x := range list {
		if cost, ok := costOf(x, f, w); ok {
			r.allowed = append(r.allowed, int64(i))
			left[int64(i)] = cost
		}
	}
	for len(left) > 0 {
		best := int64(-1)
		for _, i := range r.allowed {
			cost, is := left[i]
			if is && (best < 0 || cost < left[best]) {
				best = i
			} else if is && cost == left[best] {
				ties = true
			}
		}
		r.ranked = append(r.ranked, best)
		delete(left, best)
	}
	return r, ties
}

// randomFit returns a valid fit that allows some of the lasts and feet whose measures differ by such a spread, and sometimes none.
func randomFit(n *numbers, spread int64) impl.Fit {
	low := n.from(0, spread/2)
	return fit(low, low+n.from(0, spread), n.from(spread/3, spread), n.from(0, 3), n.from(0, 3), n.from(0, 3)*n.from(0, 33), n.from(0, 2))
}

// TestRankedLastsAreAllThatAreAllowed is for promise 4: lists of all lengths, many with equal costs, some without an allowed last.
func TestRankedLastsAreAllThatAreAllowed(t *testing.T) {
	var n numbers
	var ties, none int
	for i := range int64(2000) {
		spread := []int64{2, 5, 20, 250}[i%4]
		list := lastsOf(&n, i%31, 2000, 2000+spread)
		f := feetOf(&n, 1, 2000, 2000+spread)[0]
		w := randomFit(&n, spread)
		want, tied := searchedRanking(list, f, w)
		checkRanking(t, list, f, w, want)
		for _, x := range list {
			cost, ok := costOf(x, f, w)
			if !ok {
				cost = refused
			}
			checkFit(t, x, f, w, cost)
		}
		if tied {
			ties++
		}
		if len(want.allowed) == 0 {
			none++
		}
	}
	if ties < 100 || none < 100 || none > 1900 {
		t.Errorf("%d lists have equal costs, %d have no allowed last", ties, none)
	}
}

// TestPairLastHasTheLeastSum is for promise 4.
func TestPairLastHasTheLeastSum(t *testing.T) {
	var n numbers
	var ties, none, apart int
	for i := range int64(2000) {
		spread := []int64{2, 5, 20}[i%3]
		list := lastsOf(&n, i%31, 2000, 2000+spread)
		feet := feetOf(&n, 2, 2000, 2000+spread)
		w := randomFit(&n, spread)
		best, least, equal := int64(-1), int64(math.MaxInt64), false
		for j, x := range list {
			one, ok := costOf(x, feet[0], w)
			two, too := costOf(x, feet[1], w)
			if !ok || !too {
				continue
			}
			equal = one+two == least || equal && one+two > least
			if one+two < least {
				best, least = int64(j), one+two
			}
		}
		want := []any{best, int64(impl.OK)}
		if best < 0 {
			none++
			want = []any{int64(0), int64(impl.ErrTight)}
			_, one := impl.BestLast(list, feet[0], w)
			_, two := impl.BestLast(list, feet[1], w)
			if one == impl.OK && two == impl.OK {
				apart++
			}
		}
		if equal {
			ties++
		}
		at, code := impl.PairLast(list, feet[0], feet[1], w)
		same(t, fmt.Sprint("best last for ", feet, " of ", list, " with ", w), []any{at, code}, want)
	}
	if ties < 50 || none < 50 || none > 1950 || apart < 50 {
		t.Errorf("%d sums are equal, %d pairs have no last, %d of them though each foot has one", ties, none, apart)
	}
}

// checkFitCodes calls all functions of fits with arguments for which they return a code.
func checkFitCodes(t *testing.T, list []impl.Last, f impl.Foot, w impl.Fit, code int64) {
	t.Helper()
	name := fmt.Sprint(" for ", f, " of ", list, " with ", w)
	allowed, one := impl.AllowedLasts(list, f, w)
	same(t, "allowed lasts"+name, []any{allowed, one}, []any{[]int64(nil), code})
	at, two := impl.BestLast(list, f, w)
	same(t, "best last"+name, []any{at, two}, []any{int64(0), code})
	ranked, three := impl.RankLasts(list, f, w)
	same(t, "ranked lasts"+name, []any{ranked, three}, []any{[]int64(nil), code})
	at, four := impl.PairLast(list, f, f, w)
	same(t, "last for both"+name, []any{at, four}, []any{int64(0), code})
	if len(list) == 1 {
		may, five := impl.MayFit(list[0], f, w)
		same(t, "may fit"+name, []any{may, five}, []any{false, code})
		cost, six := impl.FitCost(list[0], f, w)
		same(t, "cost"+name, []any{cost, six}, []any{int64(0), code})
	}
}

// TestErrorsOfFits has each invalid argument alone, together with the others, and where no last is allowed.
func TestErrorsOfFits(t *testing.T) {
	f, w, far := long(2500), fit(80, 120, 20, 1, 2, 2, 1), long(500)
	good := namedLasts("a")
	for _, bad := range badLasts() {
		checkFitCodes(t, []impl.Last{bad}, f, w, impl.ErrInvalid)
		checkFitCodes(t, []impl.Last{bad}, far, w, impl.ErrInvalid)
		checkFitCodes(t, []impl.Last{bad}, impl.Foot{}, impl.Fit{}, impl.ErrInvalid)
		checkFitCodes(t, []impl.Last{bad, last("b", 2600, 2390, 2500, 3200, 200)}, f, w, impl.ErrInvalid)
	}
	for _, bad := range badFits() {
		checkFitCodes(t, good, f, bad, impl.ErrInvalid)
		checkFitCodes(t, good, far, bad, impl.ErrInvalid)
		checkFitCodes(t, nil, f, bad, impl.ErrInvalid)
	}
	for k := range 4 {
		for _, x := range []int64{499, 5001, 0, math.MinInt64, math.MaxInt64} {
			bad := f
			*measuresOf(&bad)[k] = x
			checkFitCodes(t, good, bad, w, impl.ErrInvalid)
			checkFitCodes(t, nil, bad, w, impl.ErrInvalid)
			for _, pair := range [][2]impl.Foot{{f, bad}, {bad, f}, {far, bad}, {bad, far}} {
				at, code := impl.PairLast(good, pair[0], pair[1], w)
				same(t, fmt.Sprint("last for ", pair), []any{at, code}, []any{int64(0), int64(impl.ErrInvalid)})
			}
		}
	}
	var n numbers
	for _, list := range [][]impl.Last{namedLasts("b", "a"), namedLasts("a", "a"), namedLasts("a", "c", "b"), lastsOf(&n, 31, 500, 5000)} {
		checkFitCodes(t, list, f, w, impl.ErrInvalid)
		checkFitCodes(t, list, far, w, impl.ErrInvalid)
	}
}
