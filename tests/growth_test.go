package tests

import (
	"fmt"
	"math"
	"math/big"
	"testing"

	"loop.example/g01043/impl"
)

func TestGrowthOf(t *testing.T) {
	for _, x := range []struct {
		days []int64
		list []impl.Foot
		want impl.Fraction
	}{
		{[]int64{0, 100}, longs(2500, 2520), impl.Fraction{Num: 1, Den: 5}},
		{[]int64{0, 100}, longs(2520, 2500), impl.Fraction{Num: -1, Den: 5}},
		{[]int64{0, 100}, longs(2500, 2500), impl.Fraction{Num: 0, Den: 1}},
		{[]int64{7, 8, 9}, longs(2500, 2400, 2500), impl.Fraction{Num: 0, Den: 1}},
		{[]int64{0, 1, 3}, longs(2500, 2501, 2502), impl.Fraction{Num: 9, Den: 14}},
		{[]int64{0, 1}, longs(500, 5000), impl.Fraction{Num: 4500, Den: 1}},
		{[]int64{9999, 10000}, longs(5000, 500), impl.Fraction{Num: -4500, Den: 1}},
		{[]int64{0, 10000}, longs(500, 5000), impl.Fraction{Num: 9, Den: 20}},
		{[]int64{0, 10000}, longs(2500, 2501), impl.Fraction{Num: 1, Den: 10000}},
		{[]int64{10, 20, 30, 40}, longs(2400, 2410, 2405, 2425), impl.Fraction{Num: 7, Den: 10}},
	} {
		got, code := impl.GrowthOf(x.days, x.list)
		same(t, fmt.Sprint("growth on ", x.days, " of ", x.list), []any{got, code}, []any{x.want, int64(impl.OK)})
	}
}

// TestGrowthLooksAtLengthsOnly has girths that change while lengths do not.
func TestGrowthLooksAtLengthsOnly(t *testing.T) {
	list := []impl.Foot{foot(2500, 1000, 2000, 3000), foot(2500, 1500, 2500, 3500)}
	got, code := impl.GrowthOf([]int64{0, 100}, list)
	same(t, "growth", []any{got, code}, []any{impl.Fraction{Num: 0, Den: 1}, int64(impl.OK)})
	length, code := impl.LengthOn([]int64{0, 100}, list, 20000)
	same(t, "length", []any{length, code}, []any{int64(2500), int64(impl.OK)})
}

func TestLengthOn(t *testing.T) {
	for _, x := range []struct {
		days []int64
		list []impl.Foot
		day  int64
		want int64
	}{
		{[]int64{0, 100}, longs(2500, 2520), 0, 2500},
		{[]int64{0, 100}, longs(2500, 2520), 100, 2520},
		{[]int64{0, 100}, longs(2500, 2520), 150, 2530},
		{[]int64{0, 100}, longs(2500, 2520), 2, 2500},
		{[]int64{0, 100}, longs(2500, 2520), 3, 2501},
		{[]int64{0, 100}, longs(2500, 2520), 20000, 6500},
		{[]int64{0, 100}, longs(2520, 2500), 20000, -1480},
		{[]int64{0, 2}, longs(2500, 2501), 1, 2501},
		{[]int64{0, 2}, longs(2501, 2500), 1, 2501},
		{[]int64{1, 3}, longs(2500, 2503), 0, 2499},
		{[]int64{100, 200}, longs(2500, 2520), 0, 2480},
		{[]int64{0, 1}, longs(5000, 500), 20000, -89995000},
		{[]int64{0, 1}, longs(500, 5000), 20000, 90000500},
		{[]int64{9999, 10000}, longs(500, 5000), 0, -44995000},
		{[]int64{0, 2}, longs(501, 500), 1003, 0},
		{[]int64{0, 2}, longs(501, 500), 1005, -1},
		{[]int64{0, 3}, longs(501, 500), 1504, 0},
		{[]int64{0, 3}, longs(501, 500), 1505, -1},
		{[]int64{0, 1, 3}, longs(2500, 2501, 2502), 0, 2500},
	} {
		got, code := impl.LengthOn(x.days, x.list, x.day)
		same(t, fmt.Sprint("length on ", x.day, ", of ", x.list, " on ", x.days), []any{got, code}, []any{x.want, int64(impl.OK)})
	}
}

// slopeAndStart returns the line through the lengths that has the least sum of squares: the one from which the lengths differ by 0 in sum, both as they are and times the days.
func slopeAndStart(days []int64, list []impl.Foot) (*big.Rat, *big.Rat) {
	count := big.NewRat(int64(len(days)), 1)
	d, x := new(big.Rat), new(big.Rat)
	for i := range days {
		d.Add(d, big.NewRat(days[i], 1))
		x.Add(x, big.NewRat(list[i].Length, 1))
	}
	d.Quo(d, count)
	x.Quo(x, count)
	above, below := new(big.Rat), new(big.Rat)
	for i := range days {
		off := new(big.Rat).Sub(big.NewRat(days[i], 1), d)
		above.Add(above, new(big.Rat).Mul(off, new(big.Rat).Sub(big.NewRat(list[i].Length, 1), x)))
		below.Add(below, new(big.Rat).Mul(off, off))
	}
	slope := new(big.Rat).Quo(above, below)
	return slope, new(big.Rat).Sub(x, new(big.Rat).Mul(slope, d))
}

// nearestOf returns the greatest integer that is not greater than x plus 1/2.
func nearestOf(x *big.Rat) int64 {
	y := new(big.Rat).Add(x, big.NewRat(1, 2))
	// Div of big integers rounds down for a positive divisor.
	return new(big.Int).Div(y.Num(), y.Denom()).Int64()
}

// TestGrowthIsTheSlope is for promise 2, with a reckoning of its own in fractions of any size.
func TestGrowthIsTheSlope(t *testing.T) {
	var n numbers
	for i := range int64(1500) {
		count := i%29 + 2
		low, high := int64(500), int64(5000)
		if i%3 == 0 {
			low, high = 2500, 2503
		}
		list := feetOf(&n, count, low, high)
		days := daysOf(&n, count, []int64{2, 30, 333}[i%3])
		slope, start := slopeAndStart(days, list)
		got, code := impl.GrowthOf(days, list)
		want := impl.Fraction{Num: slope.Num().Int64(), Den: slope.Denom().Int64()}
		same(t, fmt.Sprint("growth on ", days, " of ", list), []any{got, code}, []any{want, int64(impl.OK)})
		for _, day := range []int64{0, days[0], days[count-1], 20000, n.from(0, 20000)} {
			length, code := impl.LengthOn(days, list, day)
			value := new(big.Rat).Add(start, new(big.Rat).Mul(slope, big.NewRat(day, 1)))
			same(t, fmt.Sprint("length on ", day, ", of ", list, " on ", days), []any{length, code}, []any{nearestOf(value), int64(impl.OK)})
		}
	}
}

// TestMostFeetGrow has the greatest sums that can occur.
func TestMostFeetGrow(t *testing.T) {
	for _, first := range []int64{500, 5000} {
		var days []int64
		var list []impl.Foot
		for i := range int64(30) {
			days = append(days, 10000-29+i)
			list = append(list, long(first+(5500-2*first)*(i/15)))
		}
		slope, start := slopeAndStart(days, list)
		got, code := impl.GrowthOf(days, list)
		same(t, "growth", []any{got, code}, []any{impl.Fraction{Num: slope.Num().Int64(), Den: slope.Denom().Int64()}, int64(impl.OK)})
		for _, day := range []int64{0, 10000, 20000} {
			value := new(big.Rat).Add(start, new(big.Rat).Mul(slope, big.NewRat(day, 1)))
			length, code := impl.LengthOn(days, list, day)
			same(t, fmt.Sprint("length on ", day), []any{length, code}, []any{nearestOf(value), int64(impl.OK)})
		}
	}
}

// TestErrorsOfGrowth has the errors of days and feet in their order.
func TestErrorsOfGrowth(t *testing.T) {
	var n numbers
	good, bad := longs(2500, 2520), longs(2500, 5001)
	for _, x := range []struct {
		days []int64
		list []impl.Foot
		code int64
	}{
		{nil, nil, impl.ErrNotFound},
		{[]int64{}, []impl.Foot{}, impl.ErrNotFound},
		{[]int64{0}, good[:1], impl.ErrNotFound},
		{[]int64{10000}, good[:1], impl.ErrNotFound},
		{[]int64{-1}, good[:1], impl.ErrRange},
		{[]int64{10001}, good[:1], impl.ErrRange},
		{[]int64{0}, nil, impl.ErrRange},
		{nil, good[:1], impl.ErrRange},
		{nil, good, impl.ErrRange},
		{[]int64{0}, good, impl.ErrRange},
		{[]int64{0, 1, 2}, good, impl.ErrRange},
		{[]int64{0, 0}, good, impl.ErrRange},
		{[]int64{10000, 10000}, good, impl.ErrRange},
		{[]int64{1, 0}, good, impl.ErrRange},
		{[]int64{-1, 0}, good, impl.ErrRange},
		{[]int64{0, 10001}, good, impl.ErrRange},
		{[]int64{math.MinInt64, math.MaxInt64}, good, impl.ErrRange},
		{[]int64{0, 2, 1}, longs(2500, 2510, 2520), impl.ErrRange},
		{[]int64{0, 2, 2}, longs(2500, 2510, 2520), impl.ErrRange},
		{[]int64{0, 100}, bad, impl.ErrInvalid},
		{[]int64{100, 0}, bad, impl.ErrInvalid},
		{nil, bad, impl.ErrInvalid},
		{[]int64{0}, []impl.Foot{{}}, impl.ErrInvalid},
		{daysOf(&n, 31, 10), feetOf(&n, 31, 500, 5000), impl.ErrInvalid},
	} {
		name := fmt.Sprint(" on ", x.days, " of ", x.list)
		got, code := impl.GrowthOf(x.days, x.list)
		same(t, "growth"+name, []any{got, code}, []any{impl.Fraction{}, x.code})
		length, code := impl.LengthOn(x.days, x.list, 0)
		same(t, "length"+name, []any{length, code}, []any{int64(0), x.code})
	}
}

func TestErrorsOfLengthOn(t *testing.T) {
	good, bad := longs(2500, 2520), longs(2500, 5001)
	for _, x := range []struct {
		days []int64
		list []impl.Foot
		day  int64
		code int64
	}{
		{[]int64{0, 100}, good, -1, impl.ErrRange},
		{[]int64{0, 100}, good, 20001, impl.ErrRange},
		{[]int64{0, 100}, good, math.MinInt64, impl.ErrRange},
		{[]int64{0, 100}, good, math.MaxInt64, impl.ErrRange},
		{[]int64{0}, good[:1], -1, impl.ErrRange},
		{nil, nil, 20001, impl.ErrRange},
		{nil, nil, 20000, impl.ErrNotFound},
		{[]int64{0, 100}, bad, 20001, impl.ErrInvalid},
		{nil, bad, -1, impl.ErrInvalid},
	} {
		got, code := impl.LengthOn(x.days, x.list, x.day)
		same(t, fmt.Sprint("length on ", x.day, ", of ", x.list, " on ", x.days), []any{got, code}, []any{int64(0), x.code})
	}
}
