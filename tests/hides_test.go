package tests

import (
	"fmt"
	"math"
	"slices"
	"strings"
	"testing"

	"loop.example/g01043/impl"
)

func TestLimitsOfHides(t *testing.T) {
	same(t, "MaxHide", impl.MaxHide, 6)
	same(t, "MaxCuts", impl.MaxCuts, 4)
	same(t, "MaxWorth", impl.MaxWorth, 1000)
}

// goodHides are hides of all sizes, with each letter alone and with all of them.
func goodHides() [][]string {
	var n numbers
	var all [][]string
	for rows := int64(1); rows <= 6; rows++ {
		for columns := int64(1); columns <= 6; columns++ {
			for _, letters := range []string{"a", "b", "c", "x", "abcx"} {
				all = append(all, hideOf(&n, rows, columns, letters))
			}
		}
	}
	return all
}

// badHides returns rows with one thing each that is not as a hide has it.
func badHides() [][]string {
	all := [][]string{nil, {}, {""}, {"", ""}, {"", "", "", "", "", ""}, {strings.Repeat("a", 36)}, {strings.Repeat("a", 100000)}, {strings.Repeat("a", 1<<8+1)}}
	for size := 1; size <= 6; size++ {
		row := strings.Repeat("a", size)
		for _, count := range []int{7, 8, 36, 257, 1000} {
			all = append(all, slices.Repeat([]string{row}, count), slices.Repeat([]string{strings.Repeat("a", count)}, size))
		}
	}
	// Rows with different lengths, also with as many fields as alike ones would have.
	for _, text := range []string{"ab a", "a ab", "ab ab a", "a ab ab", "ab a ab", "ab abc a", "abc a ab", "a abc", "abc a", "aaaaaa aaaaaaa", "aaaaaaa aaaaaa", "aaaaaa aaaaa", "a a a a a aa", "aa a a a a a", "aaaaaa aaaaaa aaaaaa aaaaaa aaaaaa aaaaa", "aaaaaa aaaaaa aaaaaa aaaaaa aaaaaa aaaaaaa"} {
		all = append(all, strings.Fields(text))
	}
	all = append(all, []string{"a", ""}, []string{"", "a"}, []string{"ab", "", "ab"}, []string{"ab", "ab", ""})
	// Each byte that is no letter of a hide, alone and at some places.
	for letter := range 256 {
		bad := string([]byte{byte(letter)})
		if strings.Contains("abcx", bad) {
			continue
		}
		all = append(all, []string{bad}, []string{bad + "a", "aa"}, []string{"a" + bad, "aa"}, []string{"aa", "a" + bad}, []string{"xxx", "x" + bad + "x", "xxx"})
	}
	full := slices.Repeat([]string{"aaaaaa"}, 5)
	all = append(all, append(slices.Clone(full), "aaaaaA"), append(slices.Clone(full), "aaaaad"), append(slices.Clone(full), "aaaaa "), append([]string{"Aaaaaa"}, full...))
	// Letters of several bytes, with as many bytes or as many letters as other rows.
	for _, letter := range []string{"ä", "а", "с", "х", "ａ", "á", "😀", "ｘ", "ä"} {
		all = append(all, []string{letter}, []string{letter, strings.Repeat("a", len(letter))}, []string{strings.Repeat("a", len(letter)), letter}, []string{letter, "a"}, []string{"a", letter}, []string{"a" + letter}, []string{letter + "a"})
	}
	return all
}

func TestValidHide(t *testing.T) {
	for _, rows := range goodHides() {
		same(t, fmt.Sprintf("valid %q", rows), impl.ValidHide(rows), true)
	}
	for _, rows := range badHides() {
		same(t, fmt.Sprintf("valid %.200q", rows), impl.ValidHide(rows), false)
	}
	// All rows of up to three letters.
	rows := []string{"a", "b", "c", "x"}
	for range 2 {
		for _, row := range rows {
			for _, letter := range []string{"a", "b", "c", "x"} {
				rows = append(rows, row+letter)
			}
		}
	}
	for _, row := range rows {
		same(t, "valid "+row, []any{impl.ValidHide([]string{row}), impl.ValidHide([]string{row, row}), impl.ValidHide([]string{row, row + "a"})}, []any{true, true, false})
	}
}

// goodCuts are pieces at the ends of all ranges.
func goodCuts() []impl.Cut {
	return cuts("1x1q1=0 6x6q3=1000 6x1q2=1 1x6q2=999 2x3q1=500 3x2q3=500 5x5q1=1000 1x1q3=1000 6x6q1=0 6x6q2=7 1x1q2=12")
}

// badSizes are no numbers of columns or rows of a piece, badQualities no qualities that a piece may need, and badWorths nothing that a piece may be worth.
var (
	badSizes     = []int64{0, 7, -1, 8, -6, 36, 1 << 32, 1<<32 + 1, -1 << 32, math.MinInt64, math.MinInt64 + 1, math.MaxInt64 - 1, math.MaxInt64}
	badQualities = []int64{0, 4, -1, 5, -3, 97, 1 << 32, 1<<32 + 1, -1 << 32, math.MinInt64, math.MinInt64 + 1, math.MaxInt64 - 1, math.MaxInt64}
	badWorths    = []int64{-1, 1001, -2, 1002, -1000, 5000, 1 << 32, 1<<32 + 1, -1 << 32, math.MinInt64, math.MinInt64 + 1, math.MaxInt64 - 1, math.MaxInt64}
)

// badCuts returns pieces with one number each that is out of its range, and the zero one.
func badCuts() []impl.Cut {
	list := []impl.Cut{{}}
	for _, good := range goodCuts()[:5] {
		for k, bad := range [][]int64{badSizes, badSizes, badQualities, badWorths} {
			for _, number := range bad {
				c := good
				*numbersOfCut(&c)[k] = number
				list = append(list, c)
			}
		}
	}
	return list
}

// goodCutLists are valid lists of no pieces and of up to four.
func goodCutLists() [][]impl.Cut {
	all := [][]impl.Cut{nil, {}, goodCuts()[:4], goodCuts()[4:8], goodCuts()[7:]}
	for _, c := range goodCuts() {
		for count := 1; count <= 4; count++ {
			all = append(all, slices.Repeat([]impl.Cut{c}, count))
		}
	}
	return all
}

// badCutLists returns lists with one thing each that is not valid.
func badCutLists() [][]impl.Cut {
	all := [][]impl.Cut{goodCuts(), goodCuts()[:5], goodCuts()[:6]}
	for _, c := range goodCuts() {
		for _, count := range []int{5, 6, 36, 1000} {
			all = append(all, slices.Repeat([]impl.Cut{c}, count))
		}
	}
	a, b, c := goodCuts()[0], goodCuts()[1], goodCuts()[2]
	for _, bad := range badCuts() {
		all = append(all, []impl.Cut{bad}, []impl.Cut{bad, a}, []impl.Cut{a, bad}, []impl.Cut{bad, a, b, c}, []impl.Cut{a, b, bad, c}, []impl.Cut{a, b, c, bad}, []impl.Cut{bad, bad, bad, bad})
	}
	return all
}

func TestValidCuts(t *testing.T) {
	for _, list := range goodCutLists() {
		same(t, fmt.Sprint("valid ", list), impl.ValidCuts(list), true)
	}
	for _, list := range badCutLists() {
		same(t, fmt.Sprint("valid ", list), impl.ValidCuts(list), false)
	}
	for width := int64(-1); width <= 8; width++ {
		for height := int64(-1); height <= 8; height++ {
			for quality := int64(-1); quality <= 5; quality++ {
				valid := width >= 1 && width <= 6 && height >= 1 && height <= 6 && quality >= 1 && quality <= 3
				c := cut(width, height, quality, 1000)
				same(t, fmt.Sprint("valid ", c), impl.ValidCuts([]impl.Cut{c}), valid)
			}
		}
	}
}

func checkQuality(t *testing.T, rows []string, row, column, quality, code int64) {
	t.Helper()
	got, gotten := impl.QualityAt(rows, row, column)
	same(t, fmt.Sprintf("quality of %.200q at %d, %d", rows, row, column), []any{got, gotten}, []any{quality, code})
}

// TestQualityAt has each field of hides of all sizes, and places just beside them.
func TestQualityAt(t *testing.T) {
	for _, rows := range append(goodHides(), []string{"aab"}, []string{"abcx"}, []string{"x", "c", "b", "a"}) {
		for row := range rows {
			for column := range rows[row] {
				checkQuality(t, rows, int64(row), int64(column), qualityOf(rows[row][column]), impl.OK)
			}
		}
		count, length := int64(len(rows)), int64(len(rows[0]))
		for _, x := range [][2]int64{{-1, 0}, {0, -1}, {-1, -1}, {count, 0}, {0, length}, {count, length}, {count - 1, length}, {count, length - 1}, {-1, length - 1}, {count - 1, -1}, {-1, length}, {count, -1}, {0, count * length}, {count * length, 0}, {1, -length}, {-1, 2 * length}} {
			// What is beside a narrow hide may still be one of its fields.
			if x[0] < 0 || x[0] >= count || x[1] < 0 || x[1] >= length {
				checkQuality(t, rows, x[0], x[1], 0, impl.ErrRange)
			}
		}
		for _, far := range []int64{1 << 32, 1<<32 + 1, -1 << 32, math.MinInt64, math.MinInt64 + 1, math.MaxInt64 - 1, math.MaxInt64} {
			checkQuality(t, rows, far, 0, 0, impl.ErrRange)
			checkQuality(t, rows, 0, far, 0, impl.ErrRange)
			checkQuality(t, rows, far, far, 0, impl.ErrRange)
		}
	}
	checkQuality(t, strings.Fields("ab cx"), 0, 1, 2, impl.OK)
	checkQuality(t, strings.Fields("ab cx"), 1, 0, 1, impl.OK)
	checkQuality(t, strings.Fields("abc xxx"), 1, 2, 0, impl.OK)
	checkQuality(t, strings.Fields("abc xxx"), 2, 1, 0, impl.ErrRange)
}

func checkPlaces(t *testing.T, rows []string, c impl.Cut, want []int64) {
	t.Helper()
	got, code := impl.PlacesOf(rows, c)
	same(t, fmt.Sprintf("places of %v on %q", c, rows), []any{got, code}, []any{want, int64(impl.OK)})
}

func TestPlacesOf(t *testing.T) {
	for _, x := range []struct {
		rows, cut string
		want      []int64
	}{
		{"aab", "1x1q2=4", []int64{0, 1, 2}}, {"aab", "2x1q3=5", []int64{0}}, {"aab", "2x1q2=5", []int64{0, 1}}, {"aab", "3x1q2=5", []int64{0}}, {"aab", "3x1q3=5", nil}, {"aab", "1x1q3=0", []int64{0, 1}}, {"aab", "1x2q1=0", nil},
		{"a", "1x1q3=0", []int64{0}}, {"b", "1x1q3=0", nil}, {"b", "1x1q2=0", []int64{0}}, {"c", "1x1q2=0", nil}, {"c", "1x1q1=0", []int64{0}}, {"x", "1x1q1=0", nil}, {"a", "2x1q1=0", nil}, {"a", "1x2q1=0", nil}, {"a", "6x6q1=0", nil},
		{"abcx", "1x1q1=0", []int64{0, 1, 2}}, {"abcx", "1x1q2=0", []int64{0, 1}}, {"abcx", "1x1q3=0", []int64{0}}, {"xcba", "1x1q3=0", []int64{3}}, {"xcba", "2x1q1=0", []int64{1, 2}}, {"xcba", "3x1q1=0", []int64{1}},
		{"a b c x", "1x1q1=0", []int64{0, 1, 2}}, {"a b c x", "1x2q2=0", []int64{0}}, {"a b c x", "1x3q1=0", []int64{0}}, {"a b c x", "1x4q1=0", nil}, {"x x x x x a", "1x1q3=0", []int64{5}}, {"xxxxxa", "1x1q3=0", []int64{5}},
		// Across the end of a row.
		{"xaa aax", "2x1q3=0", []int64{1, 3}}, {"xxa axx", "2x1q3=0", nil}, {"xaa axx", "3x1q3=0", nil}, {"aaa aaa", "2x2q3=0", []int64{0, 1}}, {"aaa aax", "2x2q3=0", []int64{0}}, {"aaa xaa", "2x2q3=0", []int64{1}}, {"axa aaa", "2x2q3=0", nil}, {"aa aa aa", "2x2q3=0", []int64{0, 2}}, {"aa aa aa", "1x2q3=0", []int64{0, 1, 2, 3}},
		{"aaa axa aaa", "1x1q1=0", []int64{0, 1, 2, 3, 5, 6, 7, 8}}, {"aaa axa aaa", "2x2q1=0", nil}, {"aaa axa aaa", "3x1q1=0", []int64{0, 6}}, {"aaa axa aaa", "1x3q1=0", []int64{0, 2}}, {"aaa aba aaa", "3x3q2=0", []int64{0}}, {"aaa aba aaa", "3x3q3=0", nil},
		// The whole hide, and its last field.
		{"aaaaaa aaaaaa aaaaaa aaaaaa aaaaaa aaaaaa", "6x6q3=0", []int64{0}}, {"aaaaaa aaaaaa aaaaaa aaaaaa aaaaaa aaaaab", "6x6q3=0", nil}, {"aaaaaa aaaaaa aaaaaa aaaaaa aaaaaa aaaaab", "6x6q2=0", []int64{0}}, {"baaaaa aaaaaa aaaaaa aaaaaa aaaaaa aaaaaa", "6x6q3=0", nil}, {"xxxxxx xxxxxx xxxxxx xxxxxx xxxxxx xxxxxa", "1x1q3=0", []int64{35}}, {"xxxxxx xxxxxx xxxxxx xxxxxx xxxxaa xxxxaa", "2x2q3=0", []int64{28}}, {"aaaaaa aaaaaa aaaaaa aaaaaa aaaaaa aaaaaa", "5x5q3=0", []int64{0, 1, 6, 7}}, {"aaaaaa aaaaaa aaaaaa aaaaaa aaaaaa aaaaaa", "6x1q3=0", []int64{0, 6, 12, 18, 24, 30}}, {"aaaaaa aaaaaa aaaaaa aaaaaa aaaaaa aaaaaa", "1x6q3=0", []int64{0, 1, 2, 3, 4, 5}},
	} {
		checkPlaces(t, strings.Fields(x.rows), cuts(x.cut)[0], x.want)
	}
}

// TestPiecesAsLargeAsTheHide has a piece of the size of each hide, which fits just at the first field if the worst field is good enough, and pieces that are one wider or higher.
func TestPiecesAsLargeAsTheHide(t *testing.T) {
	for _, rows := range goodHides() {
		height, width := int64(len(rows)), int64(len(rows[0]))
		worst := int64(3)
		for _, letter := range strings.Join(rows, "") {
			worst = min(worst, qualityOf(byte(letter)))
		}
		for quality := int64(1); quality <= 3; quality++ {
			var want []int64
			if quality <= worst {
				want = []int64{0}
			}
			checkPlaces(t, rows, cut(width, height, quality, 0), want)
			best := []any{repeated(-1, 1-len(want)), int64(0), int64(impl.OK)}
			if len(want) > 0 {
				best = []any{want, int64(9), int64(impl.OK)}
			}
			plan, worth, code := impl.BestPlan(rows, []impl.Cut{cut(width, height, quality, 9)})
			same(t, fmt.Sprint("best plan of the whole of ", rows), []any{plan, worth, code}, best)
			for _, c := range []impl.Cut{cut(width+1, height, quality, 5), cut(width, height+1, quality, 5), cut(width+1, height+1, quality, 5), cut(width+1, 1, quality, 5), cut(1, height+1, quality, 5)} {
				if c.Width > 6 || c.Height > 6 {
					_, code := impl.PlacesOf(rows, c)
					same(t, fmt.Sprint("code of ", c), code, int64(impl.ErrInvalid))
					continue
				}
				checkPlaces(t, rows, c, nil)
				plan, worth, code := impl.BestPlan(rows, []impl.Cut{c})
				same(t, fmt.Sprint("best plan of ", c, " on ", rows), []any{plan, worth, code}, []any{[]int64{-1}, int64(0), int64(impl.OK)})
			}
		}
	}
}

// manyLetters are letters from which hides are drawn: some have few flaws, some many, and some hardly any good fields.
var manyLetters = []string{"abcx", "aaaaab", "aaaaaaaaax", "aabbc", "bbbbbbbc", "cx", "xxxxxa", "aaaax", "ab"}

// manyHides returns hides of all sizes, with many letters.
func manyHides(n *numbers, rounds int64) [][]string {
	var all [][]string
	for round := range rounds {
		for size := range int64(36) {
			all = append(all, hideOf(n, 1+size/6, 1+size%6, manyLetters[(round+size)%int64(len(manyLetters))]))
		}
	}
	return all
}

// TestPiecesFitJustWhereFieldsAreGoodEnough is for promise 10: all pieces on hides of all sizes.
func TestPiecesFitJustWhereFieldsAreGoodEnough(t *testing.T) {
	var n numbers
	found := map[int]int{}
	for _, rows := range manyHides(&n, 18) {
		size := int64(len(rows) * len(rows[0]))
		for k := range int64(108) {
			c := cut(1+k%6, 1+k/6%6, 1+k/36, n.from(0, 1000))
			var want []int64
			for at := range size {
				if fitsAt(rows, c, at) {
					want = append(want, at)
				}
			}
			checkPlaces(t, rows, c, want)
			found[min(len(want), 2)]++
			for _, at := range []int64{0, size - 1, n.from(0, size-1)} {
				fault := int64(0)
				if slices.Contains(want, at) {
					fault = -1
				}
				got, code := impl.PlanFault(rows, []impl.Cut{c}, []int64{at})
				same(t, fmt.Sprintf("fault of %v on %q at %d", c, rows, at), []any{got, code}, []any{fault, int64(impl.OK)})
			}
		}
	}
	for places := range 3 {
		if found[places] < 1000 {
			t.Errorf("only %d pieces have %d places", found[places], places)
		}
	}
}

func checkLargest(t *testing.T, rows []string, quality int64, want []any) {
	t.Helper()
	width, height, code := impl.LargestCut(rows, quality)
	same(t, fmt.Sprintf("largest of %.200q with %d", rows, quality), []any{width, height, code}, want)
}

func TestLargestCut(t *testing.T) {
	for _, x := range []struct {
		rows                   string
		quality, width, height int64
	}{
		{"aab", 3, 2, 1}, {"aab", 2, 3, 1}, {"aab", 1, 3, 1}, {"a", 3, 1, 1}, {"c", 1, 1, 1}, {"b", 2, 1, 1}, {"a a b", 3, 1, 2}, {"a a b", 2, 1, 3}, {"xxxxxa", 3, 1, 1}, {"x x x x x a", 3, 1, 1}, {"aaxaaa", 3, 3, 1}, {"aaaxaa", 3, 3, 1}, {"a a x a a a", 3, 1, 3},
		// As many fields: the widest one.
		{"aax axx xxx", 3, 2, 1}, {"xax xax aax", 3, 1, 3}, {"xax xax xaa", 3, 1, 3}, {"xa aa", 3, 2, 1}, {"ax ax xx aa", 3, 2, 1}, {"axxx axxx axaa axaa", 3, 2, 2}, {"aaaaxx xxxxxx aaxxxx aaxxxx", 3, 4, 1}, {"axaa axaa axxx axxx", 3, 2, 2}, {"xxxxaa xxxxaa axxxxx axxxxx axxxxx axxxxx", 3, 2, 2}, {"aaaaaa xxxxxx aaaxxx aaaxxx", 3, 6, 1}, {"aaaxax aaaxax xxxxax xxxxax xxxxax xxxxax", 3, 3, 2}, {"aaxaxx aaxaxx aaxaxx xxxaxx xxxaxx xxxaxx", 3, 2, 3}, {"aaxaaa aaxaaa aaxxxx", 3, 3, 2},
		// More fields, though another one is wider or higher.
		{"aaaxxx xxxxxx aaxxxx aaxxxx", 3, 2, 2}, {"aaxxax aaxxax xxxxax", 3, 2, 2}, {"aaaaax xxxxxx aaaxxx aaaxxx", 3, 3, 2}, {"aaaaax xxxxxx aaxxxx aaxxxx", 3, 5, 1}, {"aaa axa aaa", 3, 3, 1}, {"aaa axa aaa aaa", 3, 3, 2}, {"aaa aba aaa", 3, 3, 1}, {"aaa aba aaa", 2, 3, 3}, {"aca aba cab", 2, 2, 2}, {"aca aba cac", 2, 3, 1}, {"aca aca cbc", 2, 1, 2},
		// The whole hide, and all but one of its fields.
		{"aaaaaa aaaaaa aaaaaa aaaaaa aaaaaa aaaaaa", 3, 6, 6}, {"aaaaaa aaaaaa aaaaaa aaaaaa aaaaaa aaaaab", 3, 6, 5}, {"aaaaaa aaaaaa aaaaaa aaaaaa aaaaaa aaaaab", 2, 6, 6}, {"xaaaaa aaaaaa aaaaaa aaaaaa aaaaaa aaaaaa", 1, 6, 5}, {"aaaaaa aaaaaa aaaaaa aaaaaa aaaaaa xxxxxx", 3, 6, 5}, {"aaaaax aaaaax aaaaax aaaaax aaaaax aaaaax", 3, 5, 6}, {"aaaaax aaaaax aaaaax aaaaax aaaaax xxxxxx", 3, 5, 5}, {"aaaaaa", 3, 6, 1}, {"a a a a a a", 3, 1, 6},
	} {
		checkLargest(t, strings.Fields(x.rows), x.quality, []any{x.width, x.height, int64(impl.OK)})
	}
	none := []any{int64(0), int64(0), int64(impl.ErrNotFound)}
	for quality := int64(1); quality <= 3; quality++ {
		for size := range 36 {
			worse := strings.Repeat("xcb"[quality-1:quality], 1+size%6)
			checkLargest(t, slices.Repeat([]string{worse}, 1+size/6), quality, none)
			checkLargest(t, slices.Repeat([]string{strings.Repeat("x", 1+size%6)}, 1+size/6), quality, none)
		}
	}
	checkLargest(t, strings.Fields("bcx cbx xxx"), 3, none)
}

// TestLargestCutOfManyHides looks at all rectangles, the widest ones first.
func TestLargestCutOfManyHides(t *testing.T) {
	var n numbers
	ties := 0
	for i, rows := range manyHides(&n, 60) {
		quality := 1 + int64(i/36)%3
		want, most, equal := []any{int64(0), int64(0), int64(impl.ErrNotFound)}, int64(0), false
		for width := int64(len(rows[0])); width > 0; width-- {
			for height := int64(len(rows)); height > 0; height-- {
				places, _ := impl.PlacesOf(rows, cut(width, height, quality, 0))
				if len(places) == 0 {
					continue
				}
				equal = equal && width*height <= most || width*height == most
				if width*height > most {
					want, most = []any{width, height, int64(impl.OK)}, width*height
				}
			}
		}
		if equal {
			ties++
		}
		checkLargest(t, rows, quality, want)
	}
	if ties < 200 {
		t.Errorf("only %d hides have several largest rectangles", ties)
	}
}

func checkMirror(t *testing.T, rows, want []string) {
	t.Helper()
	got, code := impl.MirrorHide(rows)
	same(t, fmt.Sprintf("mirrored %q", rows), []any{got, code}, []any{want, int64(impl.OK)})
}

func TestMirrorHide(t *testing.T) {
	for _, x := range [][2]string{{"aab", "baa"}, {"a", "a"}, {"x", "x"}, {"abcx", "xcba"}, {"abcxab", "baxcba"}, {"a b c", "a b c"}, {"ab cx", "ba xc"}, {"abc xab cxa", "cba bax axc"}, {"aba", "aba"}, {"abxxxx aaaaaa xxxxxc aabbcc xxxxxx cabxab", "xxxxba aaaaaa cxxxxx ccbbaa xxxxxx baxbac"}} {
		checkMirror(t, strings.Fields(x[0]), strings.Fields(x[1]))
		checkMirror(t, strings.Fields(x[1]), strings.Fields(x[0]))
	}
}

// TestMirroredHides has the fields of all hides on the other side, where pieces fit as they do on this one.
func TestMirroredHides(t *testing.T) {
	var n numbers
	for _, rows := range append(manyHides(&n, 12), goodHides()...) {
		mirrored, code := impl.MirrorHide(rows)
		same(t, "code", code, int64(impl.OK))
		checkMirror(t, mirrored, rows)
		columns := int64(len(rows[0]))
		for row := range int64(len(rows)) {
			for column := range columns {
				quality, _ := impl.QualityAt(rows, row, columns-1-column)
				checkQuality(t, mirrored, row, column, quality, impl.OK)
			}
		}
		for _, c := range cutsOf(&n, 4, columns, int64(len(rows)), 1000) {
			places, _ := impl.PlacesOf(rows, c)
			var want []int64
			for _, at := range places {
				want = append(want, at/columns*columns+columns-at%columns-c.Width)
			}
			slices.Sort(want)
			checkPlaces(t, mirrored, c, want)
		}
		for quality := int64(1); quality <= 3; quality++ {
			width, height, code := impl.LargestCut(rows, quality)
			checkLargest(t, mirrored, quality, []any{width, height, code})
		}
	}
}

// checkHideCodes calls all functions that need a hide and no plan, with arguments for which they return a code.
func checkHideCodes(t *testing.T, rows []string, c impl.Cut, row, quality, code int64) {
	t.Helper()
	checkQuality(t, rows, row, 0, 0, code)
	checkQuality(t, rows, 0, row, 0, code)
	checkLargest(t, rows, quality, []any{int64(0), int64(0), code})
	places, one := impl.PlacesOf(rows, c)
	plan, worth, two := impl.BestPlan(rows, []impl.Cut{c})
	mirrored, three := impl.MirrorHide(rows)
	same(t, fmt.Sprintf("results of %v on %.200q", c, rows), []any{places, one, plan, worth, two, mirrored, three}, []any{[]int64(nil), code, []int64(nil), int64(0), code, []string(nil), code})
}

// TestErrorsOfHides has each argument alone and together with others that are wrong, too; a hide and a piece that are not valid are found first.
func TestErrorsOfHides(t *testing.T) {
	bad := badCuts()
	for i, rows := range badHides() {
		checkHideCodes(t, rows, goodCuts()[i%11], 0, 1, impl.ErrInvalid)
		checkHideCodes(t, rows, goodCuts()[i%11], badSizes[i%13], 3, impl.ErrInvalid)
		checkHideCodes(t, rows, goodCuts()[i%11], 0, badQualities[i%13], impl.ErrInvalid)
		checkHideCodes(t, rows, bad[i%len(bad)], -1, badQualities[i%13], impl.ErrInvalid)
	}
	for i, rows := range goodHides() {
		for _, quality := range badQualities {
			checkLargest(t, rows, quality, []any{int64(0), int64(0), int64(impl.ErrRange)})
		}
		for k := range 40 {
			c := bad[(40*i+k)%len(bad)]
			places, one := impl.PlacesOf(rows, c)
			plan, worth, two := impl.BestPlan(rows, []impl.Cut{c})
			same(t, fmt.Sprint("results of ", c), []any{places, one, plan, worth, two}, []any{[]int64(nil), int64(impl.ErrInvalid), []int64(nil), int64(0), int64(impl.ErrInvalid)})
		}
	}
}
