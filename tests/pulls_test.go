package tests

import (
	"fmt"
	"math/big"
	"testing"

	"loop.example/g01043/impl"
)

func checkPullFor(t *testing.T, l impl.Leather, direction, length, wanted, force, code int64) {
	t.Helper()
	got, gotten := impl.PullFor(l, direction, length, wanted)
	same(t, fmt.Sprint("force for ", wanted, " from ", length, " of ", l, " in the direction ", direction), []any{got, gotten}, []any{force, code})
}

func TestPullFor(t *testing.T) {
	for _, x := range []struct {
		l                                impl.Leather
		direction, length, wanted, force int64
	}{
		{leather(2, 10, 500, 200), 4, 1000, 1050, 50}, {leather(2, 10, 500, 200), 0, 1000, 1050, 250}, {leather(2, 10, 500, 200), 2, 1000, 1060, 100}, {leather(2, 10, 500, 200), 4, 1000, 1001, 1}, {leather(2, 10, 500, 200), 0, 1000, 1001, 5}, {leather(2, 10, 0, 200), 4, 1000, 1050, 50},
		// What is there already needs no force.
		{leather(2, 10, 500, 200), 4, 1000, 1000, 0}, {leather(2, 10, 500, 200), 4, 1000, 999, 0}, {leather(2, 10, 500, 200), 4, 1000, 1, 0}, {leather(2, 10, 500, 200), 4, 10000, 10000, 0}, {leather(0, 0, 0, 1), 4, 10000, 10000, 0}, {leather(0, 0, 0, 1), 0, 1, 1, 0}, {leather(0, 0, 0, 1), 3, 10000, 9999, 0}, {leather(100, 100, 0, 1), 3, 10000, 9999, 0},
		// Just reached, and reached a little later only.
		{leather(1, 0, 0, 500), 3, 1000, 1001, 40}, {leather(1, 0, 0, 500), 3, 1001, 1002, 40}, {leather(1, 0, 0, 500), 3, 999, 1000, 41}, {leather(1, 0, 0, 500), 1, 1000, 1001, 14}, {leather(1, 0, 0, 500), 2, 1000, 1001, 20}, {leather(3, 3, 0, 500), 2, 1000, 1001, 4}, {leather(3, 3, 0, 500), 2, 1000, 1002, 7}, {leather(3, 3, 0, 500), 2, 1000, 1003, 10}, {leather(3, 3, 0, 500), 2, 10000, 10000, 0}, {leather(2, 10, 500, 200), 4, 1, 1, 0},
		// As much as the leather bears, and the greatest force.
		{leather(2, 10, 500, 200), 4, 1000, 1200, 200}, {leather(2, 10, 500, 200), 4, 5000, 6000, 200}, {leather(2, 10, 500, 200), 4, 5000, 5996, 200}, {leather(2, 10, 500, 200), 4, 5000, 5995, 199}, {leather(5, 5, 0, 500), 4, 2, 3, 1000}, {leather(5, 5, 0, 500), 4, 1000, 1500, 1000}, {leather(1, 0, 0, 25), 3, 1000, 1025, 1000}, {leather(1, 0, 0, 25), 3, 40, 41, 1000}, {leather(100, 100, 0, 500), 4, 6666, 9999, 50}, {leather(100, 100, 0, 500), 4, 6667, 10000, 50}, {leather(100, 100, 0, 500), 4, 9999, 10000, 1},
	} {
		checkPullFor(t, x.l, x.direction, x.length, x.wanted, x.force, impl.OK)
	}
	// The leather would tear under the least force.
	for _, x := range []struct {
		l                         impl.Leather
		direction, length, wanted int64
	}{
		{leather(2, 10, 500, 200), 4, 1000, 1300}, {leather(2, 10, 500, 200), 4, 1000, 1201}, {leather(2, 10, 500, 200), 4, 5000, 6001}, {leather(2, 10, 500, 200), 4, 5000, 10000}, {leather(2, 10, 500, 200), 4, 1, 2}, {leather(2, 10, 500, 199), 0, 1000, 1200}, {leather(100, 100, 0, 500), 4, 2, 4}, {leather(100, 100, 0, 500), 4, 6666, 10000}, {leather(100, 100, 0, 1), 4, 9999, 10000}, {leather(1, 0, 0, 24), 3, 1000, 1025}, {leather(1, 0, 0, 1), 1, 1000, 1001}, {leather(10, 10, 0, 500), 4, 5000, 10000}, {leather(100, 100, 0, 500), 4, 909, 9999},
	} {
		checkPullFor(t, x.l, x.direction, x.length, x.wanted, 0, impl.ErrTight)
	}
	// No force up to the greatest one is enough, whether the leather tears before or not.
	for _, x := range []struct {
		l                         impl.Leather
		direction, length, wanted int64
	}{
		{leather(0, 0, 0, 1), 0, 1000, 1001}, {leather(0, 0, 1000, 500), 4, 1, 10000}, {leather(0, 100, 1000, 500), 0, 9999, 10000}, {leather(100, 0, 1000, 500), 4, 9999, 10000}, {leather(5, 5, 0, 500), 4, 1000, 1501}, {leather(5, 5, 0, 500), 4, 2, 4}, {leather(1, 0, 0, 25), 3, 1000, 1026}, {leather(1, 0, 0, 500), 3, 39, 40}, {leather(1, 0, 0, 1), 3, 1000, 1026}, {leather(2, 10, 500, 200), 4, 1000, 2001}, {leather(2, 10, 500, 200), 4, 1, 3}, {leather(100, 100, 0, 1), 4, 1, 12}, {leather(100, 100, 0, 500), 4, 909, 10000}, {leather(100, 100, 0, 500), 4, 1, 10000},
	} {
		checkPullFor(t, x.l, x.direction, x.length, x.wanted, 0, impl.ErrNotFound)
	}
	checkPullFor(t, leather(2, 10, 500, 200), 4, 1000, 2000, 0, impl.ErrTight)
	checkPullFor(t, leather(100, 100, 0, 1), 4, 1, 11, 0, impl.ErrTight)
}

// TestToldForcesAreTheLeastOnes is for promise 13: it tries all forces from 0 on.
func TestToldForcesAreTheLeastOnes(t *testing.T) {
	var n numbers
	found := map[int64]int{}
	for i := range int64(1500) {
		l, direction, length := leatherOf(&n, []int64{1, 3, 10, 100}[i%4]), n.from(0, 4), n.from(1, []int64{10, 10000}[i/4%2])
		wanted := min(10000, n.from(max(1, length-length/20), length+1+length/[]int64{50, 10, 2, 1}[i/8%4]))
		force := int64(0)
		for force <= 1000 && lengthUnder(l, direction, length, force).Cmp(big.NewRat(wanted, 1)) < 0 {
			force++
		}
		code := int64(impl.OK)
		switch {
		case force > 1000:
			force, code = 0, impl.ErrNotFound
		case isTorn(l, direction, force):
			force, code = 0, impl.ErrTight
		}
		found[code]++
		if code == impl.OK && force == 0 {
			found[-1]++
		}
		checkPullFor(t, l, direction, length, wanted, force, code)
		if code != impl.OK {
			continue
		}
		reached, code := impl.LengthUnder(l, direction, length, force)
		same(t, "is reached", []any{reached.Num >= wanted*reached.Den, code}, []any{true, int64(impl.OK)})
		if force > 0 {
			less, code := impl.LengthUnder(l, direction, length, force-1)
			same(t, "is reached before", []any{less.Num >= wanted*less.Den, code}, []any{false, int64(impl.OK)})
		}
	}
	if found[impl.OK]-found[-1] < 300 || found[-1] < 100 || found[impl.ErrTight] < 150 || found[impl.ErrNotFound] < 150 {
		t.Errorf("so many codes: %v", found)
	}
}

func TestCutLength(t *testing.T) {
	ok, none, tight := int64(impl.OK), int64(impl.ErrNotFound), int64(impl.ErrTight)
	for _, x := range []struct {
		l                                      impl.Leather
		direction, wanted, force, length, code int64
	}{
		{leather(2, 10, 500, 200), 4, 1100, 100, 1000, ok}, {leather(2, 10, 500, 200), 4, 1099, 100, 999, ok}, {leather(2, 10, 500, 200), 4, 1101, 100, 1000, ok}, {leather(2, 10, 500, 200), 4, 10000, 100, 9090, ok}, {leather(2, 10, 500, 200), 4, 10000, 200, 8333, ok}, {leather(2, 10, 500, 200), 0, 1020, 100, 1000, ok}, {leather(2, 10, 500, 200), 0, 1019, 100, 999, ok}, {leather(2, 10, 0, 200), 4, 1100, 100, 1000, ok},
		// Without a force, and without a give.
		{leather(2, 10, 500, 200), 4, 1, 0, 1, ok}, {leather(2, 10, 500, 200), 4, 10000, 0, 10000, ok}, {leather(0, 0, 0, 1), 4, 10000, 1000, 10000, ok}, {leather(0, 0, 0, 1), 4, 1, 1000, 1, ok}, {leather(0, 100, 0, 1), 0, 777, 1000, 777, ok},
		// The shortest piece is too long already, or just not.
		{leather(2, 10, 500, 200), 4, 1, 100, 0, none}, {leather(2, 10, 500, 200), 4, 1, 1, 0, none}, {leather(1, 0, 0, 500), 3, 1, 1, 0, none}, {leather(2, 10, 500, 200), 4, 2, 100, 1, ok}, {leather(5, 5, 0, 500), 4, 1, 1000, 0, none}, {leather(5, 5, 0, 500), 4, 2, 1000, 1, ok}, {leather(5, 5, 0, 500), 4, 3, 1000, 2, ok}, {leather(5, 5, 0, 500), 4, 4, 1000, 2, ok}, {leather(5, 5, 0, 500), 4, 10000, 1000, 6666, ok}, {leather(1, 0, 0, 500), 3, 10000, 1, 9999, ok}, {leather(1, 0, 0, 500), 3, 41, 1000, 40, ok}, {leather(1, 0, 0, 500), 3, 40, 1000, 39, ok},
		// The leather tears, whether there is a length or not.
		{leather(2, 10, 500, 200), 4, 1100, 201, 0, tight}, {leather(2, 10, 500, 200), 4, 1, 201, 0, tight}, {leather(2, 10, 500, 200), 4, 1, 200, 0, none}, {leather(2, 10, 500, 200), 4, 12, 200, 10, ok}, {leather(1, 0, 0, 24), 3, 41, 961, 0, tight}, {leather(1, 0, 0, 24), 3, 1024, 960, 1000, ok}, {leather(100, 100, 0, 500), 4, 1500, 50, 1000, ok}, {leather(100, 100, 0, 500), 4, 1500, 51, 0, tight}, {leather(100, 100, 0, 500), 4, 1, 1000, 0, tight},
	} {
		got, code := impl.CutLength(x.l, x.direction, x.wanted, x.force)
		same(t, fmt.Sprint("length for ", x.wanted, " of ", x.l, " in the direction ", x.direction, " under ", x.force), []any{got, code}, []any{x.length, x.code})
	}
}

// TestCutLengthsAreTheGreatest is for promise 13: the length grows to no more than is wanted, and the next one to more.
func TestCutLengthsAreTheGreatest(t *testing.T) {
	var n numbers
	var exact, none int
	for i := range int64(3000) {
		l, direction := leatherOf(&n, []int64{3, 20, 100}[i%3]), n.from(0, 4)
		most, _ := impl.GreatestPull(l, direction)
		wanted, force := n.from(1, []int64{3, 100, 10000}[i/3%3]), n.from(0, most)
		if i%5 == 0 {
			l, wanted, force = leather(10, 10, 0, 500), 11*n.from(1, 900), 100
		}
		length, code := impl.CutLength(l, direction, wanted, force)
		if code != impl.OK {
			none++
			same(t, "code", code, int64(impl.ErrNotFound))
			length = 0
		} else {
			under, code := impl.LengthUnder(l, direction, length, force)
			same(t, "is short enough", []any{under.Num <= wanted*under.Den, code}, []any{true, int64(impl.OK)})
			if under.Num == wanted*under.Den {
				exact++
			}
		}
		if length < 10000 {
			next, code := impl.LengthUnder(l, direction, length+1, force)
			same(t, "the next one is short enough", []any{next.Num <= wanted*next.Den, code}, []any{false, int64(impl.OK)})
		}
	}
	if exact < 300 || none < 100 {
		t.Errorf("%d lengths grow to just what is wanted, and there is none in %d cases", exact, none)
	}
}

func TestGreatestPull(t *testing.T) {
	for _, x := range []struct {
		l               impl.Leather
		direction, want int64
	}{
		// The stretch is just Most.
		{leather(2, 10, 500, 200), 4, 200}, {leather(2, 10, 500, 200), 3, 250}, {leather(2, 10, 500, 200), 1, 500}, {leather(2, 10, 500, 200), 0, 1000}, {leather(100, 100, 0, 500), 4, 50}, {leather(10, 10, 0, 1), 2, 1}, {leather(1, 0, 0, 1), 3, 40}, {leather(1, 0, 0, 24), 3, 960}, {leather(1, 0, 0, 25), 3, 1000}, {leather(5, 5, 0, 500), 4, 1000}, {leather(5, 5, 0, 499), 4, 998}, {leather(4, 8, 0, 3), 2, 5},
		// It lies between two whole numbers.
		{leather(2, 10, 500, 200), 2, 333}, {leather(3, 3, 0, 100), 0, 333}, {leather(7, 7, 0, 100), 0, 142}, {leather(1, 0, 0, 1), 1, 13}, {leather(100, 100, 0, 1), 0, 0}, {leather(11, 11, 0, 1), 0, 0}, {leather(10, 11, 0, 1), 1, 0}, {leather(9, 10, 0, 1), 3, 1}, {leather(99, 100, 0, 500), 1, 50}, {leather(100, 99, 0, 499), 3, 50}, {leather(51, 52, 0, 500), 2, 97}, {leather(5, 6, 0, 500), 1, 952},
		// The greatest force there is.
		{leather(0, 0, 0, 1), 0, 1000}, {leather(0, 0, 1000, 500), 4, 1000}, {leather(0, 100, 0, 1), 0, 1000}, {leather(100, 0, 0, 1), 4, 1000}, {leather(100, 0, 0, 1), 3, 0}, {leather(2, 10, 500, 201), 0, 1000}, {leather(2, 10, 500, 199), 0, 995}, {leather(1, 1, 0, 500), 0, 1000}, {leather(1, 0, 0, 26), 3, 1000}, {leather(4, 5, 0, 500), 4, 1000}, {leather(4, 5, 0, 500), 3, 1000},
	} {
		got, code := impl.GreatestPull(x.l, x.direction)
		same(t, fmt.Sprint("greatest force of ", x.l, " in the direction ", x.direction), []any{got, code}, []any{x.want, int64(impl.OK)})
		checkPull(t, x.l, x.direction, 1000, got)
		if got < 1000 {
			checkPull(t, x.l, x.direction, 1000, got+1)
		}
	}
}

// TestGreatestPullsOfManyLeathers compares the greatest force with the quotient: with a give of g quarters, leather bears 40 * Most / g.
func TestGreatestPullsOfManyLeathers(t *testing.T) {
	var n numbers
	for give := int64(0); give <= 100; give++ {
		for k := range int64(20) {
			l, direction := leather(give, n.from(0, 100), n.from(0, 1000), n.from(1, 500)), k%5
			if k >= 10 {
				l.Along, l.Across = l.Across, l.Along
			}
			quarters, want := l.Along*(4-direction)+l.Across*direction, int64(1000)
			if quarters > 0 {
				want = min(want, 40*l.Most/quarters)
			}
			got, code := impl.GreatestPull(l, direction)
			same(t, fmt.Sprint("greatest force of ", l, " in the direction ", direction), []any{got, code}, []any{want, int64(impl.OK)})
			_, code = impl.StretchOf(l, direction, got)
			same(t, "code", code, int64(impl.OK))
			if got < 1000 {
				_, code = impl.StretchOf(l, direction, got+1)
				same(t, "code", code, int64(impl.ErrTight))
			}
		}
	}
}

func checkDirection(t *testing.T, l impl.Leather, force, low, high, want, code int64) {
	t.Helper()
	got, gotten := impl.BestDirection(l, force, low, high)
	same(t, fmt.Sprint("best direction of ", l, " under ", force, " from ", low, " to ", high), []any{got, gotten}, []any{want, code})
}

func TestBestDirection(t *testing.T) {
	ok, none := int64(impl.OK), int64(impl.ErrNotFound)
	for _, x := range []struct {
		l                            impl.Leather
		force, low, high, want, code int64
	}{
		{leather(2, 10, 500, 200), 100, 0, 50, 0, ok}, {leather(2, 10, 500, 200), 100, 150, 200, 0, none}, {leather(2, 10, 500, 200), 100, 21, 50, 1, ok}, {leather(2, 10, 500, 200), 100, 20, 20, 0, ok}, {leather(2, 10, 500, 200), 100, 40, 40, 1, ok}, {leather(2, 10, 500, 200), 100, 41, 59, 0, none}, {leather(2, 10, 500, 200), 100, 41, 60, 2, ok}, {leather(2, 10, 500, 200), 100, 61, 500, 3, ok}, {leather(2, 10, 500, 200), 100, 81, 500, 4, ok}, {leather(2, 10, 500, 200), 100, 100, 100, 4, ok}, {leather(2, 10, 500, 200), 100, 101, 500, 0, none}, {leather(2, 10, 500, 200), 100, 0, 19, 0, none}, {leather(2, 10, 500, 200), 100, 0, 0, 0, none}, {leather(2, 10, 500, 200), 100, 0, 500, 0, ok}, {leather(2, 10, 500, 200), 100, 500, 500, 0, none},
		// The give falls from direction to direction.
		{leather(10, 2, 500, 200), 100, 0, 500, 4, ok}, {leather(10, 2, 500, 200), 100, 21, 500, 3, ok}, {leather(10, 2, 500, 200), 100, 100, 100, 0, ok}, {leather(10, 2, 500, 200), 100, 81, 500, 0, ok}, {leather(10, 2, 500, 200), 100, 45, 79, 2, ok}, {leather(10, 2, 500, 200), 100, 0, 19, 0, none},
		// The same stretch in all directions: the first one.
		{leather(7, 7, 0, 500), 100, 70, 70, 0, ok}, {leather(7, 7, 0, 500), 100, 0, 500, 0, ok}, {leather(7, 7, 0, 500), 100, 71, 500, 0, none}, {leather(0, 0, 0, 1), 1000, 0, 0, 0, ok}, {leather(0, 0, 0, 1), 1000, 0, 500, 0, ok}, {leather(0, 0, 0, 1), 1000, 1, 500, 0, none}, {leather(10, 2, 500, 200), 0, 0, 500, 0, ok}, {leather(10, 2, 500, 200), 0, 0, 0, 0, ok}, {leather(10, 2, 500, 200), 0, 1, 500, 0, none}, {leather(100, 0, 0, 1), 0, 0, 0, 0, ok},
		// A stretch that lies between two whole numbers.
		{leather(1, 0, 0, 500), 1, 0, 0, 4, ok}, {leather(0, 1, 0, 500), 1, 0, 0, 0, ok}, {leather(1, 1, 0, 500), 1, 0, 0, 0, none}, {leather(1, 1, 0, 500), 1, 0, 1, 0, ok}, {leather(1, 1, 0, 500), 1, 1, 1, 0, none}, {leather(1, 0, 0, 500), 39, 1, 1, 0, none}, {leather(1, 0, 0, 500), 39, 1, 2, 2, ok}, {leather(1, 0, 0, 500), 40, 1, 1, 3, ok}, {leather(1, 0, 0, 500), 41, 1, 1, 0, none}, {leather(1, 0, 0, 500), 41, 1, 2, 3, ok}, {leather(1, 0, 0, 500), 41, 2, 3, 2, ok}, {leather(1, 0, 0, 500), 41, 3, 3, 0, none}, {leather(1, 0, 0, 500), 41, 3, 4, 1, ok}, {leather(1, 0, 0, 500), 41, 4, 5, 0, ok}, {leather(1, 0, 0, 500), 41, 5, 500, 0, none},
		// The ends of all ranges.
		{leather(5, 5, 0, 500), 1000, 500, 500, 0, ok}, {leather(5, 5, 0, 500), 1000, 0, 499, 0, none}, {leather(0, 5, 0, 500), 1000, 500, 500, 4, ok}, {leather(0, 5, 0, 500), 1000, 376, 500, 4, ok}, {leather(5, 0, 0, 500), 1000, 376, 500, 0, ok}, {leather(4, 6, 0, 500), 1000, 401, 500, 1, ok}, {leather(6, 4, 0, 500), 1000, 451, 500, 2, ok}, {leather(6, 5, 0, 500), 1000, 0, 500, 4, ok}, {leather(5, 6, 0, 500), 1000, 500, 500, 0, ok}, {leather(6, 6, 0, 500), 1000, 0, 500, 0, none}, {leather(100, 100, 0, 500), 1000, 0, 500, 0, none}, {leather(100, 0, 0, 500), 1000, 0, 500, 4, ok}, {leather(100, 1, 0, 500), 1000, 0, 500, 4, ok},
		// A direction is also told if the leather would tear there, as the document asks for its stretch only.
		{leather(2, 10, 500, 200), 300, 241, 500, 4, ok}, {leather(2, 10, 500, 1), 100, 0, 50, 0, ok}, {leather(2, 10, 500, 1), 100, 0, 19, 0, none},
	} {
		checkDirection(t, x.l, x.force, x.low, x.high, x.want, x.code)
	}
}

// TestToldDirectionsAreTheLeastOnes is for promise 13: it compares the stretch in the told direction with that in all directions.
func TestToldDirectionsAreTheLeastOnes(t *testing.T) {
	var n numbers
	found := map[int64]int{}
	ties := 0
	for i := range int64(5000) {
		l, force := leatherOf(&n, []int64{1, 3, 20, 100}[i%4]), n.from(0, []int64{10, 100, 1000}[i/4%3])
		if i%7 == 0 {
			l.Across = l.Along
		}
		high := n.from(0, []int64{3, 30, 500}[i/12%3])
		low := n.from(0, high)
		want, code := int64(0), int64(impl.ErrNotFound)
		var least *big.Rat
		for direction := range int64(5) {
			stretch := stretchOf(l, direction, force)
			if stretch.Cmp(big.NewRat(low, 1)) < 0 || stretch.Cmp(big.NewRat(high, 1)) > 0 {
				continue
			}
			switch {
			case least == nil || stretch.Cmp(least) < 0:
				want, code, least = direction, impl.OK, stretch
			case stretch.Cmp(least) == 0:
				ties++
			}
		}
		if code == impl.OK {
			found[want]++
		} else {
			found[-1]++
		}
		checkDirection(t, l, force, low, high, want, code)
	}
	for direction := int64(-1); direction < 5; direction++ {
		if found[direction] < 40 {
			t.Errorf("only %d leathers have the best direction %d", found[direction], direction)
		}
	}
	if ties < 200 {
		t.Errorf("only %d directions have the least stretch, too", ties)
	}
}

func checkMatch(t *testing.T, a, b impl.Leather, first, second int64) {
	t.Helper()
	i, k, code := impl.MatchDirections(a, b)
	same(t, fmt.Sprint("directions of ", a, " and ", b), []any{i, k, code}, []any{first, second, int64(impl.OK)})
}

func TestMatchDirections(t *testing.T) {
	for _, x := range []struct {
		along, across, otherAlong, otherAcross, first, second int64
	}{
		{2, 10, 10, 2, 0, 4}, {10, 2, 2, 10, 0, 4}, {2, 10, 2, 10, 0, 0}, {10, 2, 10, 2, 0, 0}, {5, 5, 5, 5, 0, 0}, {0, 0, 0, 0, 0, 0}, {5, 5, 7, 7, 0, 0}, {100, 100, 0, 0, 0, 0}, {0, 0, 100, 100, 0, 0},
		// Only one of all directions is nearest.
		{0, 10, 20, 30, 4, 0}, {0, 10, 30, 20, 4, 4}, {10, 0, 20, 30, 0, 0}, {10, 0, 30, 20, 0, 4}, {20, 30, 0, 10, 0, 4}, {30, 20, 10, 0, 4, 0}, {30, 20, 0, 10, 4, 4}, {0, 100, 50, 50, 2, 0}, {0, 100, 25, 25, 1, 0}, {0, 100, 75, 75, 3, 0}, {50, 50, 0, 100, 0, 2}, {50, 50, 100, 0, 0, 2}, {0, 100, 74, 74, 3, 0}, {0, 100, 88, 88, 4, 0}, {0, 100, 87, 87, 3, 0}, {0, 100, 12, 12, 0, 0}, {0, 100, 13, 13, 1, 0},
		// Several are nearest: the first one of a, and then that of b.
		{0, 2, 1, 1, 2, 0}, {0, 1, 1, 0, 0, 4}, {0, 4, 1, 3, 1, 0}, {0, 4, 3, 1, 1, 4}, {1, 3, 0, 4, 0, 1}, {3, 1, 0, 4, 0, 3}, {4, 0, 1, 3, 1, 4}, {4, 0, 3, 1, 1, 0}, {3, 3, 2, 4, 0, 2}, {3, 3, 3, 4, 0, 0}, {3, 3, 4, 3, 0, 4}, {2, 4, 3, 3, 2, 0}, {0, 4, 2, 2, 2, 0}, {0, 8, 1, 1, 0, 0}, {0, 8, 3, 3, 1, 0}, {0, 8, 5, 5, 2, 0}, {1, 1, 0, 8, 0, 0}, {3, 3, 0, 8, 0, 1}, {7, 7, 0, 8, 0, 3}, {7, 7, 8, 0, 0, 0},
		// The gives differ by less than 1.
		{0, 1, 0, 0, 0, 0}, {1, 0, 0, 0, 4, 0}, {1, 0, 0, 1, 0, 4}, {1, 2, 2, 3, 4, 0}, {0, 1, 0, 3, 0, 0}, {1, 2, 0, 3, 2, 2}, {1, 2, 3, 0, 2, 2}, {99, 100, 100, 99, 0, 4}, {0, 3, 1, 2, 2, 2}, {3, 7, 4, 5, 1, 0},
	} {
		checkMatch(t, leather(x.along, x.across, 500, 200), leather(x.otherAlong, x.otherAcross, 0, 1), x.first, x.second)
	}
}

// TestMatchesOfManyLeathers goes through all pairs of directions.
func TestMatchesOfManyLeathers(t *testing.T) {
	var n numbers
	var found [5][5]int
	ties := 0
	for i := range int64(6000) {
		most := []int64{2, 5, 20, 100}[i%4]
		a, b := leatherOf(&n, most), leatherOf(&n, most)
		var first, second int64
		least := big.NewRat(1000, 1)
		for one := range int64(5) {
			for other := range int64(5) {
				apart := new(big.Rat).Sub(giveOf(a, one), giveOf(b, other))
				switch apart.Abs(apart).Cmp(least) {
				case -1:
					first, second, least = one, other, apart
				case 0:
					ties++
				}
			}
		}
		found[first][second]++
		checkMatch(t, a, b, first, second)
	}
	for first, row := range found {
		for second, count := range row {
			if count < 10 {
				t.Errorf("only %d leathers match in the directions %d and %d", count, first, second)
			}
		}
	}
	if ties < 2000 {
		t.Errorf("only %d pairs of directions are as good", ties)
	}
}

// TestErrorsOfDirections has each argument of BestDirection and MatchDirections alone and together with others that are wrong, too.
func TestErrorsOfDirections(t *testing.T) {
	good := goodLeathers()
	for i, bad := range badLeathers() {
		checkDirection(t, bad, 100, 0, 50, 0, impl.ErrInvalid)
		checkDirection(t, bad, -1, 60, 501, 0, impl.ErrInvalid)
		for _, pair := range [][2]impl.Leather{{bad, good[i%8]}, {good[i%8], bad}, {bad, bad}} {
			first, second, code := impl.MatchDirections(pair[0], pair[1])
			same(t, fmt.Sprint("directions of ", pair), []any{first, second, code}, []any{int64(0), int64(0), int64(impl.ErrInvalid)})
		}
	}
	for _, l := range good {
		for _, force := range noForces {
			checkDirection(t, l, force, 0, 500, 0, impl.ErrRange)
			checkDirection(t, l, force, 500, 500, 0, impl.ErrRange)
		}
		for _, x := range append([]int64{-1, 501, -2, 502, -500, 1000}, farNumbers...) {
			checkDirection(t, l, 0, x, x, 0, impl.ErrRange)
			checkDirection(t, l, 0, x, 0, 0, impl.ErrRange)
			checkDirection(t, l, 0, x, 500, 0, impl.ErrRange)
			checkDirection(t, l, 0, 0, x, 0, impl.ErrRange)
			checkDirection(t, l, 1000, 500, x, 0, impl.ErrRange)
			checkDirection(t, l, -1, x, x, 0, impl.ErrRange)
		}
		for high := range int64(500) {
			checkDirection(t, l, 0, high+1, high, 0, impl.ErrRange)
			checkDirection(t, l, 1000, 500, high, 0, impl.ErrRange)
		}
	}
}
