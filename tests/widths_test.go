package tests

import (
	"fmt"
	"math"
	"strings"
	"testing"

	"loop.example/g01043/impl"
)

func widths(first, half, step, count int64) impl.Widths {
	return impl.Widths{First: first, Half: half, Step: step, Count: count}
}

// badWidths returns widths of which one field is not valid, and the zero ones.
func badWidths() []impl.Widths {
	list := []impl.Widths{{}}
	for _, x := range []int64{999, 3001, 0, math.MinInt64, math.MaxInt64} {
		list = append(list, widths(x, 20, 50, 5))
	}
	for _, x := range []int64{-1, 51, math.MinInt64, math.MaxInt64} {
		list = append(list, widths(2000, x, 50, 5))
	}
	for _, x := range []int64{0, -1, 201, math.MinInt64, math.MaxInt64} {
		list = append(list, widths(2000, 20, x, 5))
	}
	for _, x := range []int64{0, -1, 13, math.MinInt64, math.MaxInt64} {
		list = append(list, widths(2000, 20, 50, x))
	}
	return list
}

func TestValidWidths(t *testing.T) {
	for _, w := range []impl.Widths{widths(1000, 0, 1, 1), widths(3000, 50, 200, 12), widths(2000, 20, 50, 5)} {
		same(t, fmt.Sprint("are valid: ", w), impl.ValidWidths(w), true)
	}
	for _, w := range badWidths() {
		same(t, fmt.Sprint("are valid: ", w), impl.ValidWidths(w), false)
	}
}

func TestGirthOf(t *testing.T) {
	most := widths(3000, 50, 200, 12)
	for _, x := range []struct {
		widths            impl.Widths
		half, width, want int64
	}{
		{widths(2000, 20, 50, 5), 10, 2, 2300},
		{widths(2000, 20, 50, 5), 0, 0, 2000},
		{widths(2000, 20, 50, 5), 0, 4, 2200},
		{widths(2000, 20, 50, 5), 120, 4, 4600},
		{widths(1000, 0, 1, 1), 120, 0, 1000},
		{most, 120, 11, 11200},
		{most, 120, 0, 9000},
		{most, 0, 11, 5200},
	} {
		got, code := impl.GirthOf(x.widths, x.half, x.width)
		same(t, fmt.Sprint("girth of ", x.width, " at ", x.half, " of ", x.widths), []any{got, code}, []any{x.want, int64(impl.OK)})
	}
}

func TestWidthFor(t *testing.T) {
	w, most := widths(2000, 20, 50, 5), widths(3000, 50, 200, 12)
	const none = -1
	for _, x := range []struct {
		widths            impl.Widths
		half, girth, want int64
	}{
		{w, 10, 0, 0}, {w, 10, 2199, 0}, {w, 10, 2200, 0}, {w, 10, 2201, 1}, {w, 10, 2250, 1}, {w, 10, 2300, 2}, {w, 10, 2301, 3}, {w, 10, 2351, 4}, {w, 10, 2400, 4}, {w, 10, 2401, none}, {w, 10, 5000, none},
		{w, 0, 2000, 0}, {w, 0, 2200, 4}, {w, 0, 2201, none}, {w, 120, 4400, 0}, {w, 120, 4600, 4}, {w, 120, 4601, none},
		{widths(1000, 0, 1, 1), 0, 1000, 0}, {widths(1000, 0, 1, 1), 120, 1001, none}, {widths(1000, 0, 1, 12), 60, 1011, 11}, {widths(1000, 0, 1, 12), 60, 1012, none},
		{most, 120, 5000, 0}, {most, 0, 5000, 10}, {most, 0, 4999, 10}, {most, 0, 4800, 9}, {widths(3000, 0, 200, 10), 120, 4801, none}, {widths(3000, 0, 200, 11), 120, 5000, 10},
	} {
		want := []any{x.want, int64(impl.OK)}
		if x.want == none {
			want = []any{int64(0), int64(impl.ErrTight)}
		}
		got, code := impl.WidthFor(x.widths, x.half, x.girth)
		same(t, fmt.Sprint("width for ", x.girth, " at ", x.half, " of ", x.widths), []any{got, code}, want)
	}
}

// TestWidthForIsTheLeast checks WidthFor against GirthOf.
func TestWidthForIsTheLeast(t *testing.T) {
	var n numbers
	tight := 0
	for range 3000 {
		w := widths(n.from(1000, 3000), n.from(0, 50), n.from(1, 200), n.from(1, 12))
		half := n.from(0, 120)
		girth := min(impl.MaxMeasure, w.First+half*w.Half+n.from(-20, w.Count*w.Step))
		got, code := impl.WidthFor(w, half, girth)
		name := fmt.Sprint("width for ", girth, " at ", half, " of ", w)
		if code != impl.OK {
			tight++
			widest, _ := impl.GirthOf(w, half, w.Count-1)
			same(t, name, []any{got, code, widest < girth}, []any{int64(0), int64(impl.ErrTight), true})
			continue
		}
		reached, code := impl.GirthOf(w, half, got)
		same(t, name, []any{reached >= girth, code}, []any{true, int64(impl.OK)})
		if got > 0 {
			less, code := impl.GirthOf(w, half, got-1)
			same(t, name+" is the least one", []any{less < girth, code}, []any{true, int64(impl.OK)})
		}
	}
	if tight == 0 || tight == 3000 {
		t.Errorf("%d girths were too great", tight)
	}
}

// TestErrorsOfWidths has invalid widths before numbers out of range, and both before a girth that no width reaches.
func TestErrorsOfWidths(t *testing.T) {
	good := widths(2000, 20, 50, 5)
	for _, bad := range badWidths() {
		for _, x := range []int64{0, 1, 4, -1, 121, 5001, math.MinInt64, math.MaxInt64} {
			checkWidths(t, bad, 10, x, impl.ErrInvalid, impl.ErrInvalid)
			checkWidths(t, bad, x, 0, impl.ErrInvalid, impl.ErrInvalid)
		}
	}
	for _, x := range []int64{-1, -2, 5001, 1 << 32, -1 << 32, math.MinInt64, math.MaxInt64} {
		checkWidths(t, good, 10, x, impl.ErrRange, impl.ErrRange)
		checkWidths(t, good, x, 0, impl.ErrRange, impl.ErrRange)
		checkWidths(t, good, x, 5000, impl.ErrRange, impl.ErrRange)
	}
	checkWidths(t, good, 121, 0, impl.ErrRange, impl.ErrRange)
	checkWidths(t, good, 121, 5000, impl.ErrRange, impl.ErrRange)
	checkWidths(t, good, 10, 5000, impl.ErrRange, impl.ErrTight)
	for count := int64(1); count <= 12; count++ {
		w := widths(2000, 20, 50, count)
		_, code := impl.GirthOf(w, 0, count-1)
		same(t, fmt.Sprint("code of the last of ", count), code, impl.OK)
		got, code := impl.GirthOf(w, 0, count)
		same(t, fmt.Sprint("behind the last of ", count), []any{got, code}, []any{int64(0), int64(impl.ErrRange)})
	}
}

// checkWidths calls the functions of widths with x as a width and as a girth.
func checkWidths(t *testing.T, w impl.Widths, half, x, ofWidth, ofGirth int64) {
	t.Helper()
	name := fmt.Sprint(" ", x, " at ", half, " of ", w)
	got, code := impl.GirthOf(w, half, x)
	same(t, "girth of"+name, []any{got, code}, []any{int64(0), ofWidth})
	got, code = impl.WidthFor(w, half, x)
	same(t, "width for"+name, []any{got, code}, []any{int64(0), ofGirth})
}

func TestSizeText(t *testing.T) {
	for s, half := range map[string]int64{"0": 0, "0.5": 1, "1": 2, "1.5": 3, "7.5": 15, "8": 16, "9.5": 19, "10": 20, "10.5": 21, "42": 84, "59.5": 119, "60": 120} {
		same(t, "text of "+s, impl.SizeText(half), s)
		got, ok := impl.ReadSize(s)
		same(t, "size of "+s, []any{got, ok}, []any{half, true})
	}
	for _, half := range []int64{-1, -2, 121, 122, 1 << 32, -1 << 32, math.MinInt64, math.MaxInt64} {
		same(t, fmt.Sprint("text of ", half), impl.SizeText(half), "")
	}
}

func TestReadSizeReadsSizeText(t *testing.T) {
	texts := map[string]bool{}
	for half := range int64(121) {
		s := impl.SizeText(half)
		got, ok := impl.ReadSize(s)
		same(t, "size of "+s, []any{got, ok}, []any{half, true})
		texts[s] = true
	}
	same(t, "different texts", len(texts), 121)
}

func TestReadSizeOfOthers(t *testing.T) {
	for _, s := range []string{"", ".", ".5", "5.", "7.", "7.0", "7.50", "7.05", "7.55", "7.5.5", "7..5", "7.4", "7.6", "7,5", "7/5", "7 .5", "7. 5", " 7.5", "7.5 ", "7.5\n", "7.5\x00", "\xff", "7\xff", "07", "07.5", "00", "00.5", "+7", "+7.5", "-7", "-7.5", "-0", "-0.5", "-1", "-1.5", "--1",
		"60.5", "61", "61.5", "120", "121", "600", "0.50", "0.0", "0.", "x", "x.5", "7x", "7x.5", "0x7", "7e0", "1_0", "½", "7½", "٧", "７", "7.٥", "seven",
		"999999999999999999", "999999999999999999.5", "4611686018427387904", "4611686018427387904.5", "9223372036854775808", "9223372036854775815.5", "18446744073709551616", strings.Repeat("7", 400), strings.Repeat("0", 400), strings.Repeat(".5", 400)} {
		got, ok := impl.ReadSize(s)
		same(t, fmt.Sprintf("size of %q", s), []any{got, ok}, []any{int64(0), false})
	}
}
