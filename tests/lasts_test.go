package tests

import (
	"fmt"
	"math"
	"slices"
	"strings"
	"testing"

	"loop.example/g01043/impl"
)

func TestLimitsOfLasts(t *testing.T) {
	same(t, "MaxLasts", impl.MaxLasts, 30)
	same(t, "MaxPitch", impl.MaxPitch, 1000)
	same(t, "MostRoom", impl.MostRoom, 500)
	same(t, "MaxWeight", impl.MaxWeight, 100)
}

// namedLasts returns lasts that differ in their names only.
func namedLasts(names ...string) []impl.Last {
	var list []impl.Last
	for _, name := range names {
		list = append(list, last(name, 2600, 2390, 2500, 3200, 200))
	}
	return list
}

// badLasts returns lasts of which one field is not valid, and the zero one.
func badLasts() []impl.Last {
	list := append(namedLasts("", "A", "1", "-", "-a", "a b", "a/b", "a\n", " a", "abcdefghijklm", "é", "\xff"), impl.Last{})
	for k := range 4 {
		for _, x := range []int64{499, 5001, 0, -2500, math.MinInt64, math.MaxInt64} {
			bad := last("a", 2600, 2390, 2500, 3200, 200)
			*measuresOfLast(&bad)[k] = x
			list = append(list, bad)
		}
	}
	for _, x := range []int64{-1, 1001, math.MinInt64, math.MaxInt64} {
		list = append(list, last("a", 2600, 2390, 2500, 3200, x))
	}
	return list
}

// goodLasts returns valid lasts at the ends of all ranges.
func goodLasts() []impl.Last {
	return []impl.Last{
		last("a", 2600, 2390, 2500, 3200, 200),
		last("abcdefghijkl", 500, 500, 500, 500, 0),
		last("a-1", 5000, 5000, 5000, 5000, 1000),
		last("z9-", 500, 5000, 500, 5000, 1000),
		last("z", 5000, 500, 5000, 500, 0),
		last("pitch", 999, 1000, 1001, 4321, 1),
	}
}

func TestValidLasts(t *testing.T) {
	same(t, "nil", impl.ValidLasts(nil), true)
	same(t, "no lasts", impl.ValidLasts([]impl.Last{}), true)
	for _, x := range goodLasts() {
		same(t, fmt.Sprint("is valid: ", x), impl.ValidLasts([]impl.Last{x}), true)
	}
	for _, x := range badLasts() {
		same(t, fmt.Sprint("is valid: ", x), impl.ValidLasts([]impl.Last{x}), false)
	}
}

func TestValidLastsInOrder(t *testing.T) {
	for _, x := range []struct {
		names string
		want  bool
	}{
		{"a b", true}, {"b a", false}, {"a a", false}, {"a aa ab b", true}, {"a b b", false}, {"a a b", false}, {"a c b", false}, {"b a c", false},
		{"a a- a0 aa", true}, {"a0 a-", false}, {"aa a0", false}, {"aa a", false}, {"a10 a2", true}, {"a2 a10", false}, {"a b a", false},
		{"abcdefghijkk abcdefghijkl", true}, {"abcdefghijkl abcdefghijkl", false}, {"abcdefghijkl abcdefghijkk", false},
	} {
		same(t, "order of "+x.names, impl.ValidLasts(namedLasts(strings.Fields(x.names)...)), x.want)
	}
}

func TestValidLastsOfManyLasts(t *testing.T) {
	var n numbers
	for _, count := range []int64{1, 2, 29, 30} {
		list := lastsOf(&n, count, 500, 5000)
		same(t, fmt.Sprint(count, " lasts"), impl.ValidLasts(list), true)
		for i := range list {
			for k := range 4 {
				p := measuresOfLast(&list[i])[k]
				x := *p
				*p = 5001 - x/2500*4502 // 499 or 5001
				same(t, fmt.Sprint("last ", i, " with ", *p), impl.ValidLasts(list), *p >= 500 && *p <= 5000)
				*p = x
			}
			x := list[i]
			list[i].Pitch = 1001
			same(t, fmt.Sprint("last ", i, " with a pitch of 1001"), impl.ValidLasts(list), false)
			list[i].Name, list[i].Pitch = "", 0
			same(t, fmt.Sprint("last ", i, " without a name"), impl.ValidLasts(list), false)
			list[i] = x
		}
	}
	same(t, "31 lasts", impl.ValidLasts(lastsOf(&n, 31, 500, 5000)), false)
	same(t, "100 lasts", impl.ValidLasts(lastsOf(&n, 100, 500, 5000)), false)
}

func TestSameLasts(t *testing.T) {
	list := []impl.Last{last("a", 2600, 2390, 2500, 3200, 200), last("b", 2590, 2400, 2500, 3200, 100)}
	for _, x := range []struct {
		a, b []impl.Last
		want bool
	}{
		{nil, nil, true}, {nil, []impl.Last{}, true}, {[]impl.Last{}, nil, true}, {list, slices.Clone(list), true}, {list, list[:1], false}, {list[:1], list, false}, {nil, list, false}, {list, nil, false},
		{list, []impl.Last{list[1], list[0]}, false}, {nil, []impl.Last{{}}, false}, {[]impl.Last{{}}, []impl.Last{{}}, true}, {[]impl.Last{{}}, []impl.Last{{}, {}}, false},
	} {
		same(t, fmt.Sprint("are the same: ", x.a, " and ", x.b), impl.SameLasts(x.a, x.b), x.want)
	}
}

// TestSameLastsInEachField also has lasts and lists that are not valid.
func TestSameLastsInEachField(t *testing.T) {
	all := append(badLasts(), goodLasts()...)
	for i, x := range all {
		for j, y := range all {
			same(t, fmt.Sprint("are the same: ", x, " and ", y), impl.SameLasts([]impl.Last{y, x}, []impl.Last{y, y}), i == j)
		}
	}
	same(t, "all lasts", impl.SameLasts(all, slices.Clone(all)), true)
}

func TestAddLast(t *testing.T) {
	x := last("f", 2590, 2400, 2510, 3210, 100)
	for _, names := range []string{"", "a", "g", "a b", "a g", "g h", "a e ff z", "a b c d e", "g h i j", "e f0", "f- g"} {
		list := namedLasts(strings.Fields(names)...)
		want := append(slices.Clone(list), x)
		slices.SortFunc(want, func(a, b impl.Last) int { return strings.Compare(a.Name, b.Name) })
		got, code := impl.AddLast(list, x)
		same(t, "with f: "+names, []any{got, code}, []any{want, int64(impl.OK)})
		same(t, "is valid with f: "+names, impl.ValidLasts(got), true)
	}
}

// TestAddLastOneByOne adds 30 lasts in different orders; one more is too many.
func TestAddLastOneByOne(t *testing.T) {
	var n numbers
	want := lastsOf(&n, 30, 500, 5000)
	for _, step := range []int64{1, 7, 11, 29} {
		var list []impl.Last
		for i := range int64(30) {
			longer, code := impl.AddLast(list, want[i*step%30])
			same(t, "added", []any{len(longer), code, impl.ValidLasts(longer)}, []any{len(list) + 1, int64(impl.OK), true})
			list = longer
		}
		same(t, "list", list, want)
	}
	for _, name := range []string{"a", "a000", "a14-x", "b"} {
		got, code := impl.AddLast(want, last(name, 2600, 2390, 2500, 3200, 200))
		same(t, "added to a full list: "+name, []any{got, code}, []any{[]impl.Last(nil), int64(impl.ErrFull)})
	}
}

func TestErrorsOfAddLast(t *testing.T) {
	var n numbers
	full := lastsOf(&n, 30, 500, 5000)
	short := namedLasts("b", "d")
	for _, x := range []struct {
		list []impl.Last
		last impl.Last
		code int64
	}{
		{short, last("b", 500, 500, 500, 500, 0), impl.ErrExists},
		{short, short[0], impl.ErrExists},
		{short, short[1], impl.ErrExists},
		{full, full[0], impl.ErrExists},
		{full, full[29], impl.ErrExists},
		{full, last("a15", 500, 500, 500, 500, 0), impl.ErrExists},
		{full, last("b", 500, 500, 500, 500, 0), impl.ErrFull},
		{full, last("a15", 499, 500, 500, 500, 0), impl.ErrRange},
		{full, last("b", 500, 500, 500, 500, 1001), impl.ErrRange},
		{namedLasts("d", "b"), last("a", 500, 500, 500, 500, 0), impl.ErrInvalid},
		{namedLasts("b", "b"), last("b", 500, 500, 500, 500, 0), impl.ErrInvalid},
		{namedLasts("b", "b"), impl.Last{}, impl.ErrInvalid},
		{lastsOf(&n, 31, 500, 5000), last("b", 500, 500, 500, 500, 0), impl.ErrInvalid},
		{lastsOf(&n, 31, 500, 5000), impl.Last{}, impl.ErrInvalid},
	} {
		got, code := impl.AddLast(x.list, x.last)
		same(t, fmt.Sprint(x.list, " with ", x.last), []any{got, code}, []any{[]impl.Last(nil), x.code})
	}
	for _, bad := range badLasts() {
		got, code := impl.AddLast(short, bad)
		same(t, fmt.Sprint("with ", bad), []any{got, code}, []any{[]impl.Last(nil), int64(impl.ErrRange)})
		got, code = impl.AddLast([]impl.Last{bad}, short[0])
		same(t, fmt.Sprint(bad, " with another one"), []any{got, code}, []any{[]impl.Last(nil), int64(impl.ErrInvalid)})
		got, code = impl.AddLast([]impl.Last{bad}, bad)
		same(t, fmt.Sprint(bad, " twice"), []any{got, code}, []any{[]impl.Last(nil), int64(impl.ErrInvalid)})
	}
}

func TestLastNamed(t *testing.T) {
	var n numbers
	for _, count := range []int64{0, 1, 2, 3, 29, 30} {
		list := lastsOf(&n, count, 500, 5000)
		for i := range int64(40) {
			want := []any{i, int64(impl.OK)}
			if i >= count {
				want = []any{int64(0), int64(impl.ErrNotFound)}
			}
			at, code := impl.LastNamed(list, numbered(i))
			same(t, fmt.Sprint(numbered(i), " of ", count), []any{at, code}, want)
			at, code = impl.LastNamed(list, numbered(i)+"-")
			same(t, fmt.Sprint("behind ", numbered(i), " of ", count), []any{at, code}, []any{int64(0), int64(impl.ErrNotFound)})
		}
		at, code := impl.LastNamed(list, "a")
		same(t, fmt.Sprint("before all of ", count), []any{at, code}, []any{int64(0), int64(impl.ErrNotFound)})
	}
}

func TestErrorsOfLastNamed(t *testing.T) {
	for _, name := range []string{"", "A", "1", "-a", "a b", "a ", " a", "abcdefghijklm", "é", "a\x00", "\xff", strings.Repeat("a", 1000)} {
		for _, list := range [][]impl.Last{nil, namedLasts("a"), namedLasts("a", "b")} {
			at, code := impl.LastNamed(list, name)
			same(t, fmt.Sprintf("%q of %v", name, list), []any{at, code}, []any{int64(0), int64(impl.ErrRange)})
		}
	}
	for _, bad := range badLasts() {
		for _, name := range []string{"a", "b", "", bad.Name} {
			at, code := impl.LastNamed([]impl.Last{bad}, name)
			same(t, fmt.Sprintf("%q of %v", name, bad), []any{at, code}, []any{int64(0), int64(impl.ErrInvalid)})
		}
	}
	for _, names := range []string{"a a", "b a", "a c b"} {
		for _, name := range []string{"a", "d", "A"} {
			at, code := impl.LastNamed(namedLasts(strings.Fields(names)...), name)
			same(t, name+" of "+names, []any{at, code}, []any{int64(0), int64(impl.ErrInvalid)})
		}
	}
	var n numbers
	at, code := impl.LastNamed(lastsOf(&n, 31, 500, 5000), "a00")
	same(t, "first of 31", []any{at, code}, []any{int64(0), int64(impl.ErrInvalid)})
}

func TestLastText(t *testing.T) {
	for s, x := range map[string]impl.Last{
		"a 2600/2390/2500/3200 pitch 200":          last("a", 2600, 2390, 2500, 3200, 200),
		"abcdefghijkl 500/500/500/500 pitch 0":     last("abcdefghijkl", 500, 500, 500, 500, 0),
		"a-1 5000/5000/5000/5000 pitch 1000":       last("a-1", 5000, 5000, 5000, 5000, 1000),
		"pitch 999/1000/1001/4321 pitch 7":         last("pitch", 999, 1000, 1001, 4321, 7),
		"last-2600 2600/2390/2500/3200 pitch 1":    last("last-2600", 2600, 2390, 2500, 3200, 1),
		"zzzzzzzzzzzz 5000/500/5000/500 pitch 999": last("zzzzzzzzzzzz", 5000, 500, 5000, 500, 999),
	} {
		same(t, "text of "+s, impl.LastText(x), s)
		got, ok := impl.ReadLast(s)
		same(t, "last of "+s, []any{got, ok}, []any{x, true})
	}
	for _, x := range badLasts() {
		same(t, fmt.Sprint("text of ", x), impl.LastText(x), "")
	}
}

func TestReadLastReadsLastText(t *testing.T) {
	var n numbers
	for range 50 {
		for _, x := range lastsOf(&n, 30, 500, 5000) {
			got, ok := impl.ReadLast(impl.LastText(x))
			same(t, "last", []any{got, ok}, []any{x, true})
		}
	}
}

// noTextsOfLasts are almost texts of lasts.
var noTextsOfLasts = []string{
	"", " ", "a", "a ", "a 2600/2390/2500/3200", "a 2600/2390/2500/3200 ", "a 2600/2390/2500/3200 pitch", "a 2600/2390/2500/3200 pitch ", "2600/2390/2500/3200 pitch 200", " 2600/2390/2500/3200 pitch 200", "a pitch 200", "a  pitch 200", " pitch ", "  pitch ", "pitch 200",
	" a 2600/2390/2500/3200 pitch 200", "a  2600/2390/2500/3200 pitch 200", "a 2600/2390/2500/3200  pitch 200", "a 2600/2390/2500/3200 pitch  200", "a 2600/2390/2500/3200 pitch 200 ", "a 2600/2390/2500/3200 pitch 200\n", "a\t2600/2390/2500/3200 pitch 200", "a 2600/2390/2500/3200\tpitch 200", "a 2600/2390/2500/3200 pitch\t200", "a2600/2390/2500/3200 pitch 200", "a 2600/2390/2500/3200pitch 200", "a 2600/2390/2500/3200 pitch200",
	"a 2600/2390/2500/3200 Pitch 200", "a 2600/2390/2500/3200 pitches 200", "a 2600/2390/2500/3200 height 200", "a 2600/2390/2500/3200 pitch 200 pitch 200", "a 2600/2390/2500/3200 pitch pitch 200", "a pitch 200 2600/2390/2500/3200", "a 2600/2390/2500/3200 pitch 200 300", "a b 2600/2390/2500/3200 pitch 200",
	"a 2600/2390/2500/3200 pitch 1001", "a 2600/2390/2500/3200 pitch -1", "a 2600/2390/2500/3200 pitch -0", "a 2600/2390/2500/3200 pitch +200", "a 2600/2390/2500/3200 pitch 0200", "a 2600/2390/2500/3200 pitch 00", "a 2600/2390/2500/3200 pitch 200.0", "a 2600/2390/2500/3200 pitch 2x", "a 2600/2390/2500/3200 pitch 18446744073709551816", "a 2600/2390/2500/3200 pitch 9223372036854775808",
	"a 2600/2390/2500 pitch 200", "a 2600/2390/2500/ pitch 200", "a 2600/2390/2500/3200/3200 pitch 200", "a 2600/2390/2500/3200/ pitch 200", "a /2390/2500/3200 pitch 200", "a 2600//2500/3200 pitch 200", "a 02600/2390/2500/3200 pitch 200", "a +2600/2390/2500/3200 pitch 200", "a 2600 2390 2500 3200 pitch 200", "a 2600/2390/2500/3200/200", "a 499/2390/2500/3200 pitch 200", "a 2600/5001/2500/3200 pitch 200", "a 2600/2390/0/3200 pitch 200", "a 2600/2390/2500/-3200 pitch 200",
	"A 2600/2390/2500/3200 pitch 200", "1 2600/2390/2500/3200 pitch 200", "-a 2600/2390/2500/3200 pitch 200", "a_b 2600/2390/2500/3200 pitch 200", "é 2600/2390/2500/3200 pitch 200", "\xff 2600/2390/2500/3200 pitch 200", "a\x00 2600/2390/2500/3200 pitch 200", "abcdefghijklm 2600/2390/2500/3200 pitch 200",
}

func TestReadLastOfOthers(t *testing.T) {
	long := []string{strings.Repeat("a", 100000) + " 2600/2390/2500/3200 pitch 200", "a 2600/2390/2500/3200 pitch " + strings.Repeat("2", 100000), "a 2600/2390/2500/3200" + strings.Repeat(" pitch 200", 10000)}
	for _, s := range append(long, noTextsOfLasts...) {
		got, ok := impl.ReadLast(s)
		same(t, fmt.Sprintf("last of %.60q", s), []any{got, ok}, []any{impl.Last{}, false})
	}
}

// TestReadLastOfAlmostAll changes, adds and removes each byte of a text: what is still read must have the changed text.
func TestReadLastOfAlmostAll(t *testing.T) {
	text := "a-1 2600/2390/2500/3200 pitch 200"
	var n, none int
	for i := range len(text) + 1 {
		for b := range 256 {
			variants := []string{text[:i] + string([]byte{byte(b)}) + text[i:]}
			if i < len(text) {
				variants = append(variants, text[:i]+string([]byte{byte(b)})+text[i+1:], text[:i]+text[i+1:])
			}
			for _, s := range variants {
				n++
				x, ok := impl.ReadLast(s)
				if !ok {
					none++
					same(t, fmt.Sprintf("last of %q", s), x, impl.Last{})
					continue
				}
				same(t, fmt.Sprintf("text of the last of %q", s), []any{impl.LastText(x), impl.ValidLasts([]impl.Last{x})}, []any{s, true})
			}
		}
	}
	if none == 0 || none == n {
		t.Errorf("of %d texts, %d have no last", n, none)
	}
}
