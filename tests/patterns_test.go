package tests

import (
	"fmt"
	"math"
	"slices"
	"strings"
	"testing"

	"loop.example/g01043/impl"
)

func TestLimitsOfPatterns(t *testing.T) {
	same(t, "MaxPieces", impl.MaxPieces, 10)
	same(t, "MaxEdges", impl.MaxEdges, 8)
	same(t, "MaxEdge", impl.MaxEdge, 10000)
	same(t, "FaultSeam", impl.FaultSeam, 1)
	same(t, "FaultParts", impl.FaultParts, 2)
	same(t, "FaultOpenings", impl.FaultOpenings, 3)
}

// goodPieces are pieces at the ends of all ranges.
func goodPieces() []impl.Piece {
	return []impl.Piece{
		piece("a", 1, 1, 1), piece("vamp", 100, 200, 100, 200), piece("abcdefghijkl", 10000, 10000, 10000), piece("z-9", 1, 10000, 2, 9999), piece("b-", 5, 6, 7, 8, 9),
		piece("c", 1, 2, 3, 4, 5, 6, 7), piece("d0", 1, 2, 3, 4, 5, 6, 7, 8), piece("e", 10000, 10000, 10000, 10000, 10000, 10000, 10000, 10000),
	}
}

// badEdges are lengths that no edge has.
var badEdges = []int64{0, -1, 10001, -100, 10002, 1 << 32, -1 << 32, math.MinInt64, math.MinInt64 + 1, math.MaxInt64 - 1, math.MaxInt64}

// badPieces returns pieces with one thing each that a piece has not, and the zero one.
func badPieces() []impl.Piece {
	list := []impl.Piece{{}, piece("a"), piece("a", 100), piece("a", 100, 200), piece("a", 1, 2, 3, 4, 5, 6, 7, 8, 9), piece("a", make([]int64, 1000)...), {Name: "a", Edges: []int64{}}}
	for _, name := range []string{"", "A", "1", "-", "-a", "a b", "a/b", "a\n", " a", "a ", "abcdefghijklm", "é", "\xff", strings.Repeat("a", 1000)} {
		list = append(list, piece(name, 100, 200, 300))
	}
	for _, length := range badEdges {
		list = append(list, piece("a", length, 200, 300), piece("a", 100, length, 300), piece("a", 100, 200, length), piece("a", 1, 2, 3, 4, 5, 6, 7, length))
	}
	return list
}

// pair has the edges 0.0 to 0.3 and 1.0 to 1.2.
func pair(seams string, openings int64) impl.Pattern {
	return pattern("a 1 2 3 4, b 5 6 7", seams, openings)
}

// many returns count pieces without seams.
func many(count int64) impl.Pattern {
	var p impl.Pattern
	for i := range count {
		p.Pieces = append(p.Pieces, piece(numbered(i), 10+i, 20, 30))
	}
	return p
}

// eights returns count pieces with eight edges, each of which is joined with that of the same number of the next piece, if there is one.
func eights(count int64) impl.Pattern {
	p := impl.Pattern{}
	for i := range count {
		p.Pieces = append(p.Pieces, piece(numbered(i), 1, 2, 3, 4, 5, 6, 7, 8))
		for k := int64(0); k < 8 && i%2 == 1; k++ {
			p.Seams = append(p.Seams, seam(i-1, k, i, k))
		}
	}
	return p
}

func goodPatterns() []impl.Pattern {
	all := []impl.Pattern{
		many(1), many(2), many(9), many(10), eights(1), eights(2), eights(9), eights(10), pair("", 0), pair("", 1), pair("", 99), pair("", 100), pattern("a 1 2 3, a 1 2 3, a 1 2 3", "0.0=2.0 1.2=0.2", 1),
		// One piece with itself: neighbours in both orders, also across the end, and others.
		pair("0.0=0.1", 0), pair("0.1=0.0", 0), pair("0.3=0.0", 0), pair("0.0=0.3", 0), pair("0.0=0.2", 0), pair("0.3=0.1", 0), pair("0.0=0.1 0.2=0.3", 0), pair("0.0=0.2 0.3=0.1", 0), pair("0.0=0.3 0.1=0.2", 0), pair("1.0=1.1", 0), pair("1.2=1.0", 0),
		pair("0.0=1.0", 0), pair("1.0=0.0", 0), pair("0.3=1.2", 0), pair("1.2=0.3", 0), pair("0.0=1.2 0.1=1.1 0.2=1.0", 2), pair("0.3=1.2 1.1=0.0 0.1=0.2", 2), {Pieces: piecesOf("a 1 2 3"), Seams: []impl.Seam{}},
	}
	for _, x := range goodPieces() {
		all = append(all, impl.Pattern{Pieces: []impl.Piece{x}}, impl.Pattern{Pieces: []impl.Piece{x, x}, Seams: seamsOf("0.0=1.2 1.1=1.0"), Openings: 1})
	}
	return all
}

// strangeNumbers are no numbers of pieces, nor of edges.
var strangeNumbers = []int64{-1, 10, 11, -2, -10, 100, 1 << 32, -1 << 32, 1<<32 + 1, math.MinInt64, math.MinInt64 + 1, math.MaxInt64 - 1, math.MaxInt64}

// strangeSeams returns seams with at least one edge that pair has not.
func strangeSeams() []impl.Seam {
	all := seamsOf("0.4=1.0 1.0=0.4 1.3=0.0 0.0=1.3 2.0=0.0 0.0=2.0 0.4=0.4 2.0=2.0 1.3=1.3 0.3=1.3 1.2=0.4 2.2=1.2")
	for _, x := range strangeNumbers {
		all = append(all, seam(x, 0, 1, 0), seam(0, x, 1, 0), seam(0, 0, x, 0), seam(0, 0, 1, x), seam(x, 0, x, 0), seam(0, x, 0, x), seam(0, x, 0, 1), seam(0, 1, 0, x), seam(x, x, x, x))
	}
	return all
}

// doubledSeams are seams between edges of pair that exist, one of which is there twice.
var doubledSeams = []string{
	"0.0=0.0", "0.3=0.3", "1.0=1.0", "1.2=1.2", "0.0=1.0 1.1=1.1", "0.0=1.0 0.0=1.0", "0.0=1.0 1.0=0.0", "0.0=1.0 0.0=1.1", "0.0=1.0 0.1=1.0", "0.0=1.0 1.0=0.1", "0.0=1.0 1.1=0.0", "0.0=0.1 0.1=0.2", "0.0=0.1 0.2=0.1", "0.0=0.1 0.0=0.1", "0.0=0.1 0.1=0.0", "0.0=0.1 0.0=0.3",
	"0.0=1.0 0.1=1.1 0.2=1.2 0.3=0.0", "0.0=1.0 0.1=1.1 0.2=1.2 0.3=1.2", "0.0=1.0 0.0=0.0", "0.0=1.0 1.0=1.0", "0.2=0.3 0.0=0.1 1.0=0.2", "0.2=0.3 0.0=0.1 0.3=1.0", "0.0=1.0 0.1=1.1 0.2=1.2 0.0=1.0", "0.0=1.0 0.1=1.1 0.2=1.2 0.3=0.3",
}

// badPatterns returns patterns with one thing each that a pattern has not, and the zero one.
func badPatterns() []impl.Pattern {
	all := []impl.Pattern{{}, {Pieces: []impl.Piece{}}, many(11), many(12), many(1000), eights(11), eights(12)}
	for _, openings := range []int64{-1, 101, -2, 102, -100, 1 << 32, -1 << 32, math.MinInt64, math.MaxInt64} {
		all = append(all, pair("", openings), pair("0.0=1.0", openings))
	}
	for _, x := range badPieces() {
		a, b := goodPieces()[0], goodPieces()[1]
		all = append(all, impl.Pattern{Pieces: []impl.Piece{x}}, impl.Pattern{Pieces: []impl.Piece{x, a}}, impl.Pattern{Pieces: []impl.Piece{a, x, b}}, impl.Pattern{Pieces: []impl.Piece{a, b, x}, Seams: seamsOf("0.0=1.0")})
	}
	for _, s := range strangeSeams() {
		p, q, r := pair("", 0), pair("0.2=1.1", 2), pair("0.2=1.1", 2)
		p.Seams, q.Seams, r.Seams = []impl.Seam{s}, append(q.Seams, s), append([]impl.Seam{s}, r.Seams...)
		all = append(all, p, q, r)
	}
	for _, seams := range doubledSeams {
		all = append(all, pair(seams, 0))
	}
	return all
}

func TestValidPattern(t *testing.T) {
	for _, p := range goodPatterns() {
		same(t, fmt.Sprint("is valid: ", p), impl.ValidPattern(p), true)
	}
	for _, p := range badPatterns() {
		same(t, fmt.Sprint("is valid: ", p), impl.ValidPattern(p), false)
	}
}

// TestEndsOfEdges has one edge at a time at an end of its range, and just beyond it.
func TestEndsOfEdges(t *testing.T) {
	for _, good := range []impl.Pattern{eights(10), many(10), many(1)} {
		for _, at := range edgesOf(good) {
			for _, length := range []int64{0, 1, 10000, 10001} {
				p := like(good)
				p.Pieces[at[0]].Edges[at[1]] = length
				same(t, fmt.Sprint("is valid with ", length, " at ", at), impl.ValidPattern(p), length == 1 || length == 10000)
			}
		}
		for i := range good.Pieces {
			p := like(good)
			p.Pieces[i].Name = "A"
			same(t, fmt.Sprint("is valid with a bad name at ", i), impl.ValidPattern(p), false)
		}
	}
}

// isSeams reports whether ValidPattern has to accept the seams between pieces that are valid.
func isSeams(p impl.Pattern) bool {
	seen := map[[2]int64]int{}
	for _, at := range edgesOf(p) {
		seen[at] = 0
	}
	for _, s := range p.Seams {
		for _, at := range [][2]int64{{s.A, s.EdgeA}, {s.B, s.EdgeB}} {
			if _, exists := seen[at]; !exists {
				return false
			}
			seen[at]++
		}
	}
	for _, count := range seen {
		if count > 1 {
			return false
		}
	}
	return true
}

// TestSeamsBetweenAllEdges has each pair of seams between edges that exist, or just do not.
func TestSeamsBetweenAllEdges(t *testing.T) {
	var list []impl.Seam
	for a := int64(-1); a <= 2; a++ {
		for b := int64(-1); b <= 2; b++ {
			for edgeA := int64(-1); edgeA <= 4; edgeA++ {
				for edgeB := int64(-1); edgeB <= 4; edgeB++ {
					list = append(list, seam(a, edgeA, b, edgeB))
				}
			}
		}
	}
	valid := 0
	check := func(seams ...impl.Seam) {
		p := pair("", 0)
		p.Seams = seams
		want := isSeams(p)
		if got := impl.ValidPattern(p); got != want {
			t.Errorf("is valid: %v: got %v", p, got)
		}
		if want {
			valid++
		}
	}
	for i, x := range list {
		check(x)
		for j := i % 7; j < len(list); j += 7 {
			check(x, list[j])
		}
	}
	if valid < 100 {
		t.Errorf("only %d patterns are valid", valid)
	}
}

// TestSamePattern has patterns that differ in one thing from the first one, among them those that are not valid.
func TestSamePattern(t *testing.T) {
	list := []impl.Pattern{
		pattern("a 1 2 3 4, b 5 6 7", "0.0=1.0 0.1=1.1", 2), {}, {Openings: 2}, {Openings: -1}, {Pieces: []impl.Piece{{}}}, {Pieces: []impl.Piece{{}, {}}}, {Seams: []impl.Seam{{}}}, {Seams: []impl.Seam{{}, {}}},
		pattern("c 1 2 3 4, b 5 6 7", "0.0=1.0 0.1=1.1", 2), pattern("a 1 2 3 4, c 5 6 7", "0.0=1.0 0.1=1.1", 2), pattern("a 1 2 3 4, A 5 6 7", "0.0=1.0 0.1=1.1", 2), pattern("b 5 6 7, a 1 2 3 4", "0.0=1.0 0.1=1.1", 2),
		pattern("a 0 2 3 4, b 5 6 7", "0.0=1.0 0.1=1.1", 2), pattern("a 1 2 3 5, b 5 6 7", "0.0=1.0 0.1=1.1", 2), pattern("a 1 2 3 4, b 5 6 8", "0.0=1.0 0.1=1.1", 2), pattern("a 1 2 3 4, b 5 6 -7", "0.0=1.0 0.1=1.1", 2),
		pattern("a 2 3 4 1, b 5 6 7", "0.0=1.0 0.1=1.1", 2), pattern("a 1 2 3, b 5 6 7", "0.0=1.0 0.1=1.1", 2), pattern("a 1 2 3, b 4 5 6 7", "0.0=1.0 0.1=1.1", 2), pattern("a 1 2 3 4, b 5 6", "0.0=1.0 0.1=1.1", 2), pattern("a 1 2 3 4, b 5 6 7 7", "0.0=1.0 0.1=1.1", 2), pattern("a 1 2 3 4, b", "0.0=1.0 0.1=1.1", 2),
		pattern("a 1 2 3 4", "0.0=1.0 0.1=1.1", 2), pattern("a 1 2 3 4, b 5 6 7, b 5 6 7", "0.0=1.0 0.1=1.1", 2), pattern("", "0.0=1.0 0.1=1.1", 2),
		pattern("a 1 2 3 4, b 5 6 7", "1.0=1.0 0.1=1.1", 2), pattern("a 1 2 3 4, b 5 6 7", "0.2=1.0 0.1=1.1", 2), pattern("a 1 2 3 4, b 5 6 7", "0.0=0.0 0.1=1.1", 2), pattern("a 1 2 3 4, b 5 6 7", "0.0=1.2 0.1=1.1", 2), pattern("a 1 2 3 4, b 5 6 7", "0.0=1.0 0.1=1.2", 2), pattern("a 1 2 3 4, b 5 6 7", "1.0=0.0 0.1=1.1", 2), pattern("a 1 2 3 4, b 5 6 7", "0.1=1.1 0.0=1.0", 2),
		pattern("a 1 2 3 4, b 5 6 7", "0.0=1.0", 2), pattern("a 1 2 3 4, b 5 6 7", "0.1=1.1", 2), pattern("a 1 2 3 4, b 5 6 7", "", 2), pattern("a 1 2 3 4, b 5 6 7", "0.0=1.0 0.1=1.1 0.2=1.2", 2), pattern("a 1 2 3 4, b 5 6 7", "0.0=1.0 0.1=1.1 0.1=1.1", 2),
		pattern("a 1 2 3 4, b 5 6 7", "0.0=1.0 0.1=1.1", 1), pattern("a 1 2 3 4, b 5 6 7", "0.0=1.0 0.1=1.1", 3), pattern("a 1 2 3 4, b 5 6 7", "0.0=1.0 0.1=1.1", -2), pattern("a 1 2 3 4, b 5 6 7", "0.0=1.0 0.1=1.1", math.MinInt64), eights(10), many(11),
	}
	for i, a := range list {
		for j, b := range list {
			same(t, fmt.Sprint("are the same: ", a, " and ", b), impl.SamePattern(a, like(b)), i == j)
		}
	}
	for _, p := range append(goodPatterns(), badPatterns()...) {
		same(t, fmt.Sprint("are the same: ", p), impl.SamePattern(p, like(p)), true)
	}
}

// TestSamePatternOfEmptyLists has lists that are nil and lists that are empty.
func TestSamePatternOfEmptyLists(t *testing.T) {
	for _, x := range []struct {
		a, b impl.Pattern
		want bool
	}{
		{impl.Pattern{}, impl.Pattern{Pieces: []impl.Piece{}, Seams: []impl.Seam{}}, true}, {impl.Pattern{Pieces: []impl.Piece{}}, impl.Pattern{Seams: []impl.Seam{}}, true},
		{many(1), impl.Pattern{Pieces: many(1).Pieces, Seams: []impl.Seam{}}, true}, {impl.Pattern{Pieces: []impl.Piece{piece("a")}}, impl.Pattern{Pieces: []impl.Piece{{Name: "a", Edges: []int64{}}}}, true}, {impl.Pattern{Pieces: []impl.Piece{{}}}, impl.Pattern{Pieces: []impl.Piece{{Edges: []int64{}}}}, true}, {impl.Pattern{Pieces: []impl.Piece{{}}}, impl.Pattern{Pieces: []impl.Piece{}}, false},
	} {
		same(t, fmt.Sprintf("are the same: %#v and %#v", x.a, x.b), []any{impl.SamePattern(x.a, x.b), impl.SamePattern(x.b, x.a)}, []any{x.want, x.want})
	}
}

// addCode returns the code that AddSeam has to return for a valid pattern.
func addCode(p impl.Pattern, s impl.Seam) int64 {
	edges, a, b := edgesOf(p), [2]int64{s.A, s.EdgeA}, [2]int64{s.B, s.EdgeB}
	if !slices.Contains(edges, a) || !slices.Contains(edges, b) {
		return impl.ErrRange
	}
	p.Seams = append(slices.Clone(p.Seams), s)
	if !isSeams(p) {
		return impl.ErrClash
	}
	return impl.OK
}

// checkAdded checks what AddSeam returns for a valid pattern, and returns the code.
func checkAdded(t *testing.T, p impl.Pattern, s impl.Seam) int64 {
	t.Helper()
	want, code := impl.Pattern{}, addCode(p, s)
	if code == impl.OK {
		want = impl.Pattern{Pieces: p.Pieces, Seams: append(slices.Clone(p.Seams), s), Openings: p.Openings}
	}
	got, is := impl.AddSeam(p, s)
	same(t, fmt.Sprint(p, " with ", s), []any{got, is}, []any{want, code})
	same(t, fmt.Sprint("is valid with ", s), impl.ValidPattern(got), code == impl.OK)
	return is
}

func TestAddSeam(t *testing.T) {
	for _, x := range []struct {
		seams, more string
		code        int64
	}{
		{"", "0.0=1.0", impl.OK}, {"", "1.2=0.3", impl.OK}, {"", "0.0=0.1", impl.OK}, {"", "0.3=0.0", impl.OK}, {"", "0.0=0.2", impl.OK}, {"", "1.0=1.1", impl.OK}, {"0.0=1.0", "0.1=1.1", impl.OK}, {"0.0=0.2", "0.1=0.3", impl.OK}, {"0.0=1.0 0.1=1.1", "0.2=1.2", impl.OK}, {"0.0=1.0 0.1=1.1", "1.2=0.2", impl.OK},
		{"", "0.0=0.0", impl.ErrClash}, {"", "1.2=1.2", impl.ErrClash}, {"0.0=1.0", "0.0=1.0", impl.ErrClash}, {"0.0=1.0", "1.0=0.0", impl.ErrClash}, {"0.0=1.0", "0.0=1.1", impl.ErrClash}, {"0.0=1.0", "0.1=1.0", impl.ErrClash}, {"0.0=1.0", "1.1=0.0", impl.ErrClash}, {"0.0=1.0", "1.0=0.1", impl.ErrClash}, {"0.0=1.0", "0.0=0.0", impl.ErrClash}, {"0.0=0.2", "0.2=0.1", impl.ErrClash}, {"0.0=0.2", "0.3=0.2", impl.ErrClash},
		{"", "0.4=1.0", impl.ErrRange}, {"", "0.0=1.3", impl.ErrRange}, {"", "2.0=1.0", impl.ErrRange}, {"", "0.0=2.0", impl.ErrRange}, {"", "-1.0=1.0", impl.ErrRange}, {"", "0.-1=1.0", impl.ErrRange}, {"", "0.0=-1.0", impl.ErrRange}, {"", "0.0=1.-1", impl.ErrRange}, {"", "0.4=0.4", impl.ErrRange}, {"", "2.0=2.0", impl.ErrRange}, {"", "-1.0=-1.0", impl.ErrRange},
		// The range is checked first.
		{"0.0=1.0", "0.0=1.3", impl.ErrRange}, {"0.0=1.0", "0.4=1.0", impl.ErrRange}, {"0.0=1.0", "0.0=2.0", impl.ErrRange}, {"0.0=1.0", "-1.0=1.0", impl.ErrRange},
	} {
		same(t, x.seams+" with "+x.more, checkAdded(t, pair(x.seams, 2), seamsOf(x.more)[0]), x.code)
	}
	for _, s := range strangeSeams() {
		same(t, fmt.Sprint("with ", s), checkAdded(t, pair("0.2=1.1", 2), s), int64(impl.ErrRange))
	}
}

// TestAddSeamToMany adds seams between edges that look random until no two open ones are left, and some others.
func TestAddSeamToMany(t *testing.T) {
	var n numbers
	codes := map[int64]int{}
	for _, p := range patternsOf(&n, 12) {
		edges := edgesOf(p)
		for range 20 {
			a, b := edges[n.from(0, int64(len(edges)-1))], edges[n.from(0, int64(len(edges)-1))]
			s := seam(a[0], a[1]+n.from(0, 2)/2, b[0], b[1])
			code := checkAdded(t, p, s)
			if code == impl.OK {
				p, _ = impl.AddSeam(p, s)
			}
			codes[code]++
		}
	}
	for _, code := range []int64{impl.OK, impl.ErrRange, impl.ErrClash} {
		if codes[code] < 100 {
			t.Errorf("only %d seams have the code %d", codes[code], code)
		}
	}
}

// TestErrorsOfPatterns has each pattern that is not valid with arguments in their range, and with others, which are checked later.
func TestErrorsOfPatterns(t *testing.T) {
	const bad = int64(impl.ErrInvalid)
	var none []int64
	strange := strangeSeams()
	for i, p := range badPatterns() {
		name := fmt.Sprint(" of ", p)
		differences, one := impl.SeamDifferences(p)
		open, two := impl.OpenEdges(p)
		openings, three := impl.OpeningsOf(p)
		parts, four := impl.PartsOf(p)
		corners, five := impl.CornersOf(p)
		euler, six := impl.EulerOf(p)
		same(t, "lists"+name, []any{differences, one, open, two, openings, three, parts, four}, []any{none, bad, [][]int64(nil), bad, none, bad, none, bad})
		same(t, "numbers"+name, []any{corners, five, euler, six}, []any{int64(0), bad, int64(0), bad})
		for _, most := range []int64{0, 10000, -1, 10001, hostileNumbers[i%len(hostileNumbers)]} {
			kind, at, code := impl.FirstFault(p, most)
			sound, other := impl.IsSound(p, most)
			same(t, fmt.Sprint("faults with ", most, name), []any{kind, at, code, sound, other}, []any{int64(0), int64(0), bad, false, bad})
		}
		for _, s := range []impl.Seam{seam(0, 0, 0, 2), seam(0, 0, 0, 0), strange[i%len(strange)]} {
			more, code := impl.AddSeam(p, s)
			same(t, fmt.Sprint("one more", name), []any{more, code}, []any{impl.Pattern{}, bad})
		}
	}
}
