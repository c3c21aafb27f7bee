package tests

import (
	"fmt"
	"math"
	"math/big"
	"strings"
	"testing"

	"loop.example/g01043/impl"
)

func TestLimitsOfSizes(t *testing.T) {
	same(t, "MaxHalves", impl.MaxHalves, 120)
	same(t, "MaxScales", impl.MaxScales, 8)
	same(t, "MaxWidths", impl.MaxWidths, 12)
}

func TestScaleNamed(t *testing.T) {
	for name, want := range map[string]impl.Scale{"paris": scale("paris", 0, 100, 3), "english": scale("english", 50, 127, 3), "american": scale("american", 48, 127, 3), "mondo": scale("mondo", 0, 25, 1)} {
		got, code := impl.ScaleNamed(name)
		same(t, "scale "+name, []any{got, code}, []any{want, int64(impl.OK)})
		same(t, "is valid: "+name, impl.ValidScale(got), true)
	}
	for _, name := range []string{"", "roman", "Paris", "PARIS", "paris ", " paris", "pari", "pariss", "mondo\x00", "english/american", "\xff", strings.Repeat("mondo", 1000)} {
		got, code := impl.ScaleNamed(name)
		same(t, fmt.Sprintf("scale %q", name), []any{got, code}, []any{impl.Scale{}, int64(impl.ErrNotFound)})
	}
}

func TestValidScale(t *testing.T) {
	for _, x := range []impl.Scale{scale("a", 0, 1, 1), scale("abcdefghijkl", 100, 1000, 100), scale("a-1", 0, 1000, 1), scale("a1-", 100, 1, 100)} {
		same(t, fmt.Sprint("is valid: ", x), impl.ValidScale(x), true)
	}
	for _, x := range badScales() {
		same(t, fmt.Sprint("is valid: ", x), impl.ValidScale(x), false)
	}
}

func TestLengthOfHalf(t *testing.T) {
	english := named(t, "english")
	for _, x := range []struct {
		scale impl.Scale
		half  int64
		want  impl.Fraction
	}{
		{english, 16, fraction(2794, 1)},
		{english, 0, fraction(6350, 3)},
		{english, 120, fraction(21590, 3)},
		{named(t, "american"), 0, fraction(2032, 1)},
		{named(t, "american"), 16, fraction(8128, 3)},
		{named(t, "paris"), 0, fraction(0, 1)},
		{named(t, "paris"), 1, fraction(100, 3)},
		{named(t, "paris"), 84, fraction(2800, 1)},
		{named(t, "paris"), 85, fraction(8500, 3)},
		{named(t, "paris"), 120, fraction(4000, 1)},
		{named(t, "mondo"), 0, fraction(0, 1)},
		{named(t, "mondo"), 120, fraction(3000, 1)},
		{scale("a", 100, 1000, 1), 120, fraction(220000, 1)},
		{scale("a", 0, 1, 100), 0, fraction(0, 1)},
		{scale("a", 0, 1, 100), 1, fraction(1, 100)},
		{scale("a", 0, 1, 100), 50, fraction(1, 2)},
		{scale("a", 0, 10, 100), 120, fraction(12, 1)},
		{scale("a", 2, 6, 4), 3, fraction(15, 2)},
	} {
		got, code := impl.LengthOfHalf(x.scale, x.half)
		same(t, fmt.Sprint("length of ", x.half, " of ", x.scale), []any{got, code}, []any{x.want, int64(impl.OK)})
	}
}

// TestMoreHalvesAreLonger is for promise 3, with a reckoning of its own in fractions of any size.
func TestMoreHalvesAreLonger(t *testing.T) {
	var n numbers
	for _, x := range append(library(t), scalesOf(&n, 200)...) {
		var last *big.Rat
		for half := range int64(impl.MaxHalves + 1) {
			got, code := impl.LengthOfHalf(x, half)
			want := lengthOf(x, half)
			same(t, fmt.Sprint("length of ", half, " of ", x), []any{got, code}, []any{fraction(want.Num().Int64(), want.Denom().Int64()), int64(impl.OK)})
			if last != nil && want.Cmp(last) <= 0 {
				t.Errorf("%d half sizes of %v are not longer than one less", half, x)
			}
			last = want
		}
	}
}

func TestHalfForAndNearestHalf(t *testing.T) {
	english, american, paris, mondo := named(t, "english"), named(t, "american"), named(t, "paris"), named(t, "mondo")
	even, tiny := scale("even", 1, 2, 1), scale("tiny", 0, 1, 100)
	const none = -1
	for _, x := range []struct {
		scale                  impl.Scale
		length, least, nearest int64
	}{
		{english, 2794, 16, 16}, {english, 2793, 16, 16}, {english, 2795, 17, 16}, {english, 2773, 16, 16}, {english, 2772, 16, 15},
		{english, 0, 0, 0}, {english, 2116, 0, 0}, {english, 2117, 1, 0}, {english, 5000, 69, 68},
		{american, 2032, 0, 0}, {american, 2033, 1, 0}, {american, 2053, 1, 0}, {american, 2054, 1, 1}, {american, 5000, 71, 70},
		{paris, 0, 0, 0}, {paris, 16, 1, 0}, {paris, 17, 1, 1}, {paris, 33, 1, 1}, {paris, 34, 2, 1}, {paris, 50, 2, 1}, {paris, 51, 2, 2}, {paris, 150, 5, 4}, {paris, 2800, 84, 84}, {paris, 2801, 85, 84},
		{paris, 3966, 119, 119}, {paris, 3983, 120, 119}, {paris, 3984, 120, 120}, {paris, 4000, 120, 120}, {paris, 4001, none, 120}, {paris, 5000, none, 120},
		{mondo, 0, 0, 0}, {mondo, 12, 1, 0}, {mondo, 13, 1, 1}, {mondo, 2512, 101, 100}, {mondo, 2513, 101, 101}, {mondo, 3000, 120, 120}, {mondo, 3001, none, 120}, {mondo, 5000, none, 120},
		{even, 0, 0, 0}, {even, 2, 0, 0}, {even, 3, 1, 0}, {even, 4, 1, 1}, {even, 5, 2, 1}, {even, 241, 120, 119}, {even, 242, 120, 120}, {even, 243, none, 120},
		{tiny, 0, 0, 0}, {tiny, 1, 100, 100}, {tiny, 2, none, 120}, {tiny, 5000, none, 120},
		{scale("long", 100, 1000, 1), 5000, 0, 0}, {scale("wide", 0, 1000, 1), 5000, 5, 5}, {scale("wide", 0, 1000, 1), 500, 1, 0}, {scale("wide", 0, 1000, 1), 501, 1, 1}, {scale("wide", 0, 1000, 1), 1500, 2, 1},
	} {
		name := fmt.Sprint(" ", x.length, " in ", x.scale)
		want := []any{x.least, int64(impl.OK)}
		if x.least == none {
			want = []any{int64(0), int64(impl.ErrNotFound)}
		}
		least, code := impl.HalfFor(x.scale, x.length)
		same(t, "half sizes for"+name, []any{least, code}, want)
		nearest, code := impl.NearestHalf(x.scale, x.length)
		same(t, "half sizes nearest to"+name, []any{nearest, code}, []any{x.nearest, int64(impl.OK)})
	}
}

// TestLengthsGiveHalves looks all half sizes through, for each length of some scales, and has that more length never gives a lesser number.
func TestLengthsGiveHalves(t *testing.T) {
	var n numbers
	for i, x := range append(library(t), scalesOf(&n, 20)...) {
		step := int64(1)
		if i >= 4 {
			step = n.from(7, 97)
		}
		var last int64
		for length := int64(0); length <= impl.MaxMeasure; length += step {
			name := fmt.Sprint(" ", length, " in ", x)
			least, nearest := searched(x, big.NewRat(length, 1))
			got, code := impl.HalfFor(x, length)
			if least > impl.MaxHalves {
				same(t, "half sizes for"+name, []any{got, code}, []any{int64(0), int64(impl.ErrNotFound)})
			} else {
				same(t, "half sizes for"+name, []any{got, code}, []any{least, int64(impl.OK)})
			}
			got, code = impl.NearestHalf(x, length)
			same(t, "half sizes nearest to"+name, []any{got, code}, []any{nearest, int64(impl.OK)})
			if got < last {
				t.Errorf("%d half sizes are nearest to%s, but %d to less", got, name, last)
			}
			last = got
		}
	}
}

func TestConvertHalf(t *testing.T) {
	english, american, paris, mondo := named(t, "english"), named(t, "american"), named(t, "paris"), named(t, "mondo")
	one, two, three := scale("one", 0, 10, 1), scale("two", 0, 20, 1), scale("three", 3, 30, 1)
	for _, x := range []struct {
		a          impl.Scale
		half       int64
		b          impl.Scale
		want, back int64
	}{
		{english, 16, paris, 84, 16}, {english, 0, paris, 63, 0}, {english, 120, paris, 120, 44}, {paris, 84, english, 16, 84}, {paris, 82, english, 15, 83}, {paris, 0, english, 0, 63}, {paris, 120, english, 44, 119},
		{english, 16, american, 18, 16}, {english, 0, american, 2, 0}, {english, 118, american, 120, 118}, {english, 119, american, 120, 118}, {english, 120, american, 120, 118}, {american, 0, english, 0, 2}, {american, 1, english, 0, 2}, {american, 2, english, 0, 2}, {american, 3, english, 1, 3},
		{mondo, 120, paris, 90, 120}, {mondo, 2, paris, 1, 1}, {paris, 1, mondo, 1, 1}, {paris, 90, mondo, 120, 90}, {paris, 91, mondo, 120, 90},
		{one, 1, two, 0, 0}, {one, 2, two, 1, 2}, {one, 3, two, 1, 2}, {one, 119, two, 59, 118}, {one, 120, two, 60, 120}, {two, 60, one, 120, 60}, {two, 61, one, 120, 60}, {two, 120, one, 120, 60},
		{one, 10, three, 0, 9}, {one, 11, three, 1, 12}, {one, 0, three, 0, 9}, {three, 0, one, 9, 0}, {three, 120, one, 120, 37}, {two, 6, three, 1, 6}, {scale("half", 0, 15, 1), 7, three, 0, 6}, {scale("half", 0, 15, 1), 9, three, 1, 8},
	} {
		got, code := impl.ConvertHalf(x.a, x.half, x.b)
		same(t, fmt.Sprint(x.half, " of ", x.a, " in ", x.b), []any{got, code}, []any{x.want, int64(impl.OK)})
		back, code := impl.ConvertHalf(x.b, got, x.a)
		same(t, fmt.Sprint(got, " of ", x.b, " in ", x.a), []any{back, code}, []any{x.back, int64(impl.OK)})
	}
}

// TestConversionsNeverFall is for promise 3: each conversion is the nearest one, and none is less than that of one half size less.
func TestConversionsNeverFall(t *testing.T) {
	var n numbers
	list := append(library(t), scalesOf(&n, 8)...)
	list = append(list, scale("one", 0, 10, 1), scale("two", 0, 20, 1), scale("three", 1, 30, 7))
	for _, a := range list {
		for _, b := range list {
			var last int64
			for half := range int64(impl.MaxHalves + 1) {
				got, code := impl.ConvertHalf(a, half, b)
				_, nearest := searched(b, lengthOf(a, half))
				same(t, fmt.Sprint(half, " of ", a, " in ", b), []any{got, code}, []any{nearest, int64(impl.OK)})
				if got < last {
					t.Errorf("%d of %v is %d of %v, but one half size less is %d", half, a, got, b, last)
				}
				last = got
			}
		}
	}
}

func TestLostSizes(t *testing.T) {
	english, american, paris, mondo := named(t, "english"), named(t, "american"), named(t, "paris"), named(t, "mondo")
	one, two := scale("one", 0, 10, 1), scale("two", 0, 20, 1)
	for _, x := range []struct {
		a, b     impl.Scale
		from, to int64
		want     []int64
	}{
		{paris, english, 80, 86, []int64{82}},
		{paris, english, 82, 82, []int64{82}},
		{paris, english, 80, 81, nil},
		{paris, english, 83, 83, nil},
		{paris, english, 60, 66, []int64{60, 61, 62, 64}},
		{english, american, 0, 120, []int64{119, 120}},
		{american, english, 0, 120, []int64{0, 1}},
		{english, paris, 43, 46, []int64{45, 46}},
		{mondo, mondo, 0, 120, nil},
		{paris, scale("other", 0, 100, 3), 0, 120, nil},
		{paris, scale("paris", 0, 200, 6), 0, 120, nil},
		{one, two, 0, 0, nil},
		{one, two, 0, 6, []int64{1, 3, 5}},
		{one, two, 117, 120, []int64{117, 119}},
		{two, one, 0, 60, nil},
		{two, one, 59, 63, []int64{61, 62, 63}},
		{two, one, 120, 120, []int64{120}},
	} {
		got, code := impl.LostSizes(x.a, x.b, x.from, x.to)
		name := fmt.Sprint(" from ", x.from, " to ", x.to, " of ", x.a, " in ", x.b)
		same(t, "sizes lost"+name, got, x.want)
		same(t, "code of the sizes lost"+name, code, impl.OK)
	}
}

// TestLostSizesAreNotFoundAgain checks LostSizes against ConvertHalf.
func TestLostSizesAreNotFoundAgain(t *testing.T) {
	var n numbers
	list := append(library(t), scalesOf(&n, 8)...)
	for _, a := range list {
		for _, b := range list {
			from := n.from(0, 120)
			to := n.from(from, 120)
			var want []int64
			for half := from; half <= to; half++ {
				there, _ := impl.ConvertHalf(a, half, b)
				back, _ := impl.ConvertHalf(b, there, a)
				if back != half {
					want = append(want, half)
				}
			}
			got, code := impl.LostSizes(a, b, from, to)
			name := fmt.Sprint(" from ", from, " to ", to, " of ", a, " in ", b)
			same(t, "sizes lost"+name, got, want)
			same(t, "code of the sizes lost"+name, code, impl.OK)
		}
	}
}

// TestErrorsOfOneScale has an invalid scale before a number out of range, and both before a size that is not found.
func TestErrorsOfOneScale(t *testing.T) {
	paris := named(t, "paris")
	for _, bad := range badScales() {
		for _, x := range []int64{0, 16, 120, 121, 5000, 5001, -1, math.MinInt64, math.MaxInt64} {
			checkOneScale(t, bad, x, impl.ErrInvalid, impl.ErrInvalid)
		}
	}
	for _, x := range []int64{-1, -2, 5001, 1 << 32, -1 << 32, math.MinInt64, math.MaxInt64} {
		checkOneScale(t, paris, x, impl.ErrRange, impl.ErrRange)
		checkOneScale(t, scale("tiny", 0, 1, 100), x, impl.ErrRange, impl.ErrRange)
	}
	for _, x := range []int64{121, 122, 2800} {
		checkOneScale(t, paris, x, impl.ErrRange, impl.OK)
	}
}

// checkOneScale calls the functions of one scale with x as half sizes and as a length.
func checkOneScale(t *testing.T, scale impl.Scale, x, ofHalf, ofLength int64) {
	t.Helper()
	name := fmt.Sprint(" ", x, " in ", scale)
	length, code := impl.LengthOfHalf(scale, x)
	same(t, "length of"+name, []any{length, code}, []any{impl.Fraction{}, ofHalf})
	if ofLength == impl.OK {
		_, code = impl.NearestHalf(scale, x)
		same(t, "code of half sizes nearest to"+name, code, impl.OK)
		return
	}
	half, code := impl.HalfFor(scale, x)
	same(t, "half sizes for"+name, []any{half, code}, []any{int64(0), ofLength})
	half, code = impl.NearestHalf(scale, x)
	same(t, "half sizes nearest to"+name, []any{half, code}, []any{int64(0), ofLength})
}

func TestErrorsOfTwoScales(t *testing.T) {
	paris, mondo := named(t, "paris"), named(t, "mondo")
	wrong := []int64{-1, -2, 121, 5000, 1 << 32, -1 << 32, math.MinInt64, math.MaxInt64}
	for _, bad := range badScales() {
		for _, x := range append(wrong, 0, 16, 120) {
			checkTwoScales(t, bad, paris, x, 120, impl.ErrInvalid)
			checkTwoScales(t, paris, bad, x, 0, impl.ErrInvalid)
			checkTwoScales(t, bad, bad, x, x, impl.ErrInvalid)
		}
	}
	for _, x := range wrong {
		checkTwoScales(t, paris, mondo, x, 120, impl.ErrRange)
		checkTwoScales(t, paris, paris, x, x, impl.ErrRange)
		for _, from := range []int64{0, 120} {
			lost, code := impl.LostSizes(paris, mondo, from, x)
			same(t, fmt.Sprint("sizes lost from ", from, " to ", x), []any{plain(lost), code}, []any{[]int64(nil), int64(impl.ErrRange)})
		}
	}
	for _, x := range [][2]int64{{1, 0}, {120, 119}, {120, 0}, {86, 80}} {
		lost, code := impl.LostSizes(paris, mondo, x[0], x[1])
		same(t, fmt.Sprint("sizes lost from ", x[0], " to ", x[1]), []any{plain(lost), code}, []any{[]int64(nil), int64(impl.ErrRange)})
	}
}

func checkTwoScales(t *testing.T, a, b impl.Scale, half, to, want int64) {
	t.Helper()
	got, code := impl.ConvertHalf(a, half, b)
	same(t, fmt.Sprint(half, " of ", a, " in ", b), []any{got, code}, []any{int64(0), want})
	lost, code := impl.LostSizes(a, b, half, to)
	same(t, fmt.Sprint("sizes lost from ", half, " to ", to, " of ", a, " in ", b), []any{plain(lost), code}, []any{[]int64(nil), want})
}

func scale(name string, base, num, den int64) impl.Scale {
	return impl.Scale{Name: name, Base: base, Num: num, Den: den}
}

func fraction(num, den int64) impl.Fraction { return impl.Fraction{Num: num, Den: den} }

// named returns a scale of the library, which must be there.
func named(t *testing.T, name string) impl.Scale {
	t.Helper()
	x, code := impl.ScaleNamed(name)
	if code != impl.OK {
		t.Fatalf("no scale %s: %d", name, code)
	}
	return x
}

func library(t *testing.T) []impl.Scale {
	t.Helper()
	return []impl.Scale{named(t, "paris"), named(t, "english"), named(t, "american"), named(t, "mondo")}
}

// scalesOf returns count valid scales; every second one has lengths like those of shoes.
func scalesOf(n *numbers, count int) []impl.Scale {
	var list []impl.Scale
	for i := range count {
		x := scale(fmt.Sprint("scale-", i), n.from(0, 100), n.from(1, 1000), n.from(1, 100))
		if i%2 == 0 {
			x.Den = n.from(1, 9)
			x.Num = x.Den * n.from(10, 40)
		}
		list = append(list, x)
	}
	return list
}

// badScales returns scales of which one field is not valid, and the zero one.
func badScales() []impl.Scale {
	list := []impl.Scale{{}}
	for _, name := range []string{"", "Paris", "3", "-a", "a b", "abcdefghijklm", "é", "\xff"} {
		list = append(list, scale(name, 0, 100, 3))
	}
	for _, x := range []int64{-1, 101, math.MinInt64, math.MaxInt64} {
		list = append(list, scale("paris", x, 100, 3))
	}
	for _, x := range []int64{0, -1, 1001, math.MinInt64, math.MaxInt64} {
		list = append(list, scale("paris", 0, x, 3))
	}
	for _, x := range []int64{0, -1, 101, math.MinInt64, math.MaxInt64} {
		list = append(list, scale("paris", 0, 100, x))
	}
	return list
}

// lengthOf returns the length of half sizes as the document defines it.
func lengthOf(x impl.Scale, half int64) *big.Rat {
	return big.NewRat((half+x.Base)*x.Num, x.Den)
}

// searched returns, by looking at all of them, the least number of half sizes that is not shorter, MaxHalves + 1 if there is none, and the first one that is nearest. It counts in parts of which both lengths have a whole number.
func searched(x impl.Scale, length *big.Rat) (least, nearest int64) {
	parts, each := length.Num().Int64()*x.Den, length.Denom().Int64()
	least = impl.MaxHalves + 1
	best := int64(math.MaxInt64)
	for half := range int64(impl.MaxHalves + 1) {
		off := (half+x.Base)*x.Num*each - parts
		if off >= 0 && least > impl.MaxHalves {
			least = half
		}
		if off = max(off, -off); off < best {
			best, nearest = off, half
		}
	}
	return least, nearest
}
