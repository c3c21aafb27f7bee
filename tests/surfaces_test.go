package tests

import (
	"fmt"
	"slices"
	"testing"

	"loop.example/g01043/impl"
)

// told is what the functions have to return of the surface of a valid pattern.
type told struct {
	open, openings, parts string
	corners, euler        int64
}

func checkTold(t *testing.T, p impl.Pattern, want told) {
	t.Helper()
	open, one := impl.OpenEdges(p)
	openings, two := impl.OpeningsOf(p)
	parts, three := impl.PartsOf(p)
	corners, four := impl.CornersOf(p)
	euler, five := impl.EulerOf(p)
	got := told{fmt.Sprint(open), fmt.Sprint(openings), fmt.Sprint(parts), corners, euler}
	if got != want || one+two+three+four+five != impl.OK {
		t.Errorf("%v: got %+v with codes %v, want %+v", p, got, []int64{one, two, three, four, five}, want)
	}
}

func TestSurfaces(t *testing.T) {
	const quad, two = "a 1 20 300 4000", "a 1 20 300, b 4 50 600 7000"
	for _, x := range []struct {
		pieces, seams string
		want          told
	}{
		{"a 1 20 300", "", told{"[[0 0] [0 1] [0 2]]", "[321]", "[0]", 3, 1}}, {"a 1 2 4 8 16 32 64 128", "", told{"[[0 0] [0 1] [0 2] [0 3] [0 4] [0 5] [0 6] [0 7]]", "[255]", "[0]", 8, 1}},
		// The example: two opposite edges, in both directions.
		{quad, "0.0=0.2", told{"[[0 1] [0 3]]", "[20 4000]", "[0]", 2, 0}}, {quad, "0.2=0.0", told{"[[0 1] [0 3]]", "[20 4000]", "[0]", 2, 0}}, {quad, "0.1=0.3", told{"[[0 0] [0 2]]", "[1 300]", "[0]", 2, 0}}, {"vamp 100 200 100 200", "0.0=0.2", told{"[[0 1] [0 3]]", "[200 200]", "[0]", 2, 0}},
		// Neighbours: a bag.
		{quad, "0.0=0.1", told{"[[0 2] [0 3]]", "[4300]", "[0]", 3, 1}}, {quad, "0.1=0.2", told{"[[0 0] [0 3]]", "[4001]", "[0]", 3, 1}}, {quad, "0.3=0.0", told{"[[0 1] [0 2]]", "[320]", "[0]", 3, 1}}, {"a 1 20 300", "0.1=0.2", told{"[[0 0]]", "[1]", "[0]", 2, 1}}, {"a 1 20 300", "0.2=0.0", told{"[[0 1]]", "[20]", "[0]", 2, 1}}, {"a 1 20 300", "0.0=0.1", told{"[[0 2]]", "[300]", "[0]", 2, 1}},
		// Without an open edge: a ball, and a ring that is closed on all sides.
		{quad, "0.0=0.1 0.2=0.3", told{"[]", "[]", "[0]", 3, 2}}, {quad, "0.1=0.2 0.3=0.0", told{"[]", "[]", "[0]", 3, 2}}, {quad, "0.0=0.2 0.1=0.3", told{"[]", "[]", "[0]", 1, 0}}, {quad, "0.0=0.2 0.3=0.1", told{"[]", "[]", "[0]", 1, 0}},
		{"a 1 2 3 4 5 6", "0.0=0.3 0.1=0.4 0.2=0.5", told{"[]", "[]", "[0]", 2, 0}}, {"a 1 2 3 4 5 6", "0.0=0.5 0.1=0.4 0.2=0.3", told{"[]", "[]", "[0]", 4, 2}}, {"a 1 2 3 4 5 6", "0.0=0.1 0.2=0.3 0.4=0.5", told{"[]", "[]", "[0]", 4, 2}}, {"a 1 2 3 4 5 6", "0.0=0.2 0.1=0.3 0.4=0.5", told{"[]", "[]", "[0]", 2, 0}},
		{"a 1 2 3 4 5 6 7 8", "0.0=0.2 0.1=0.3 0.4=0.6 0.5=0.7", told{"[]", "[]", "[0]", 1, -2}}, {"a 1 2 3 4 5 6 7 8", "0.0=0.4 0.1=0.5 0.2=0.6 0.3=0.7", told{"[]", "[]", "[0]", 1, -2}}, {"a 1 2 3 4 5 6 7 8", "0.0=0.7 0.1=0.6 0.2=0.5 0.3=0.4", told{"[]", "[]", "[0]", 5, 2}},
		// Openings of one piece: over several edges, over one edge only, and both.
		{"a 1 2 4 8 16", "0.0=0.2", told{"[[0 1] [0 3] [0 4]]", "[2 24]", "[0]", 3, 0}}, {"a 1 2 4 8 16 32", "0.0=0.3", told{"[[0 1] [0 2] [0 4] [0 5]]", "[6 48]", "[0]", 4, 0}}, {"a 1 2 4 8 16 32", "0.0=0.3 0.1=0.4", told{"[[0 2] [0 5]]", "[36]", "[0]", 2, -1}}, {"a 1 2 4 8 16 32 64 128", "0.1=0.3 0.5=0.7", told{"[[0 0] [0 2] [0 4] [0 6]]", "[17 4 64]", "[0]", 4, -1}}, {"a 1 2 4 8 16 32 64 128", "0.1=0.5 0.3=0.7", told{"[[0 0] [0 2] [0 4] [0 6]]", "[85]", "[0]", 4, -1}}, {"a 1 2 4 8 16 32 64 128", "0.0=0.4 0.2=0.6", told{"[[0 1] [0 3] [0 5] [0 7]]", "[170]", "[0]", 4, -1}},
		// Two pieces: without a seam, with one, with several.
		{two, "", told{"[[0 0] [0 1] [0 2] [1 0] [1 1] [1 2] [1 3]]", "[321 7654]", "[0 1]", 7, 2}}, {two, "0.0=1.0", told{"[[0 1] [0 2] [1 1] [1 2] [1 3]]", "[7970]", "[0 0]", 5, 1}}, {two, "1.3=0.2", told{"[[0 0] [0 1] [1 0] [1 1] [1 2]]", "[675]", "[0 0]", 5, 1}}, {two, "0.0=1.0 0.1=1.3", told{"[[0 2] [1 1] [1 2]]", "[950]", "[0 0]", 4, 1}}, {two, "0.0=1.0 0.1=1.1", told{"[[0 2] [1 2] [1 3]]", "[300 7600]", "[0 0]", 3, 0}}, {two, "0.0=1.0 0.1=1.2", told{"[[0 2] [1 1] [1 3]]", "[350 7000]", "[0 0]", 3, 0}}, {two, "0.0=1.0 0.1=1.3 0.2=1.2", told{"[[1 1]]", "[50]", "[0 0]", 3, 1}}, {two, "0.0=1.0 0.1=1.1 0.2=1.2", told{"[[1 3]]", "[7000]", "[0 0]", 1, -1}},
		{"a 1 2 3, b 4 5 6", "0.0=1.0 0.1=1.2 0.2=1.1", told{"[]", "[]", "[0 0]", 3, 2}}, {"a 1 2 3, b 4 5 6", "0.0=1.0 0.1=1.1 0.2=1.2", told{"[]", "[]", "[0 0]", 1, 0}}, {"a 1 2 3, b 4 5 6", "0.0=0.1 1.0=1.1", told{"[[0 2] [1 2]]", "[3 6]", "[0 1]", 4, 2}}, {"a 1 2 3, b 4 5 6", "0.0=0.1 1.0=1.1 0.2=1.2", told{"[]", "[]", "[0 0]", 3, 2}},
		// Several parts, which are told by the least numbers of their pieces.
		{"a 1 1 1, b 2 2 2, c 3 3 3, d 4 4 4", "3.0=1.0", told{"[[0 0] [0 1] [0 2] [1 1] [1 2] [2 0] [2 1] [2 2] [3 1] [3 2]]", "[3 12 9]", "[0 1 2 1]", 10, 3}}, {"a 1 1 1, b 2 2 2, c 3 3 3, d 4 4 4", "2.0=3.0 3.1=1.0", told{"[[0 0] [0 1] [0 2] [1 1] [1 2] [2 1] [2 2] [3 2]]", "[3 14]", "[0 1 1 1]", 8, 2}}, {"a 1 1 1, b 2 2 2, c 3 3 3, d 4 4 4", "3.0=2.0 1.1=0.1", told{"[[0 0] [0 2] [1 0] [1 2] [2 1] [2 2] [3 1] [3 2]]", "[6 14]", "[0 0 2 2]", 8, 2}}, {"a 1 1 1, b 2 2 2, c 3 3 3, d 4 4 4", "3.0=2.0 1.1=0.1 1.0=2.1", told{"[[0 0] [0 2] [1 2] [2 2] [3 1] [3 2]]", "[15]", "[0 0 0 0]", 6, 1}},
	} {
		checkTold(t, pattern(x.pieces, x.seams, 0), x.want)
	}
}

// TestSolids has bodies whose corners are known, and the same ones without a seam or with a piece less.
func TestSolids(t *testing.T) {
	const tetrahedron, triangles = "0.0=1.0 0.1=2.0 0.2=3.0 1.2=2.1 2.2=3.1 3.2=1.1", "a 1 1 1, b 1 1 1, c 1 1 1, d 1 1 1"
	checkTold(t, pattern(triangles, tetrahedron, 0), told{"[]", "[]", "[0 0 0 0]", 4, 2})
	checkTold(t, pattern(triangles, tetrahedron[8:], 0), told{"[[0 0] [1 0]]", "[2]", "[0 0 0 0]", 4, 1})
	for sides := int64(3); sides <= 8; sides++ {
		p, open, round := prism(sides)
		length := fmt.Sprint([]int64{sides * 10})
		zeros := make([]int64, sides+2)
		checkTold(t, p, told{"[]", "[]", fmt.Sprint(zeros), 2 * sides, 2})
		// Without its lid, which is the last piece.
		p.Pieces, p.Seams = p.Pieces[:sides+1], p.Seams[:len(p.Seams)-int(sides)]
		checkTold(t, p, told{open, length, fmt.Sprint(zeros[1:]), 2 * sides, 1})
		// The sides alone.
		p.Pieces, p.Seams = p.Pieces[:sides], p.Seams[:sides]
		checkTold(t, p, told{round, length[:len(length)-1] + " " + length[1:], fmt.Sprint(zeros[2:]), 2 * sides, 0})
	}
}

// prism has four edges on each of its sides, a bottom and a lid; it comes with the open edges that it has without the lid, and without both.
func prism(sides int64) (impl.Pattern, string, string) {
	var p impl.Pattern
	var open, round [][]int64
	bottom, lid := piece("bottom"), piece("lid")
	for i := range sides {
		p.Pieces = append(p.Pieces, piece(numbered(i), 10, 70, 10, 70))
		p.Seams = append(p.Seams, seam(i, 1, (i+1)%sides, 3))
		bottom.Edges, lid.Edges = append(bottom.Edges, 10), append(lid.Edges, 10)
		open, round = append(open, []int64{i, 2}), append(round, []int64{i, 0}, []int64{i, 2})
	}
	p.Pieces = append(p.Pieces, bottom, lid)
	// Around the bottom and around the lid, one goes in opposite directions.
	for i := range sides {
		p.Seams = append(p.Seams, seam(i, 0, sides, sides-1-i))
	}
	for i := range sides {
		p.Seams = append(p.Seams, seam(sides+1, i, i, 2))
	}
	return p, fmt.Sprint(open), fmt.Sprint(round)
}

// end is the beginning or the end of an edge.
type end struct {
	edge  [2]int64
	isEnd bool
}

// cornersOf counts the ends of edges that differ: it gives each one the least number of all that are the same.
func cornersOf(p impl.Pattern) int64 {
	number := map[end]int64{}
	var pairs [][2]end
	for i, at := range edgesOf(p) {
		number[end{at, false}], number[end{at, true}] = int64(2*i), int64(2*i+1)
		next := [2]int64{at[0], (at[1] + 1) % int64(len(p.Pieces[at[0]].Edges))}
		pairs = append(pairs, [2]end{{at, true}, {next, false}})
	}
	for _, s := range p.Seams {
		a, b := [2]int64{s.A, s.EdgeA}, [2]int64{s.B, s.EdgeB}
		pairs = append(pairs, [2]end{{a, false}, {b, true}}, [2]end{{a, true}, {b, false}})
	}
	for changed := true; changed; {
		changed = false
		for _, x := range pairs {
			if low := min(number[x[0]], number[x[1]]); number[x[0]] != number[x[1]] {
				number[x[0]], number[x[1]], changed = low, low, true
			}
		}
	}
	different := map[int64]bool{}
	for _, n := range number {
		different[n] = true
	}
	return int64(len(different))
}

// joinedTo returns the edges that seams join, in both directions.
func joinedTo(p impl.Pattern) map[[2]int64][2]int64 {
	other := map[[2]int64][2]int64{}
	for _, s := range p.Seams {
		a, b := [2]int64{s.A, s.EdgeA}, [2]int64{s.B, s.EdgeB}
		other[a], other[b] = b, a
	}
	return other
}

// openOf returns the open edges.
func openOf(p impl.Pattern) [][2]int64 {
	other := joinedTo(p)
	return slices.DeleteFunc(edgesOf(p), func(at [2]int64) bool {
		_, is := other[at]
		return is
	})
}

// openingsOf goes around all openings the other way round, from each edge to the open one before it.
func openingsOf(p impl.Pattern) []int64 {
	other := joinedTo(p)
	before := func(at [2]int64) [2]int64 {
		count := int64(len(p.Pieces[at[0]].Edges))
		return [2]int64{at[0], (at[1] + count - 1) % count}
	}
	var lengths []int64
	seen := map[[2]int64]bool{}
	for _, first := range openOf(p) {
		if seen[first] {
			continue
		}
		var length int64
		for at := first; length == 0 || at != first; {
			seen[at] = true
			length += lengthAt(p, at)
			at = before(at)
			for b, is := other[at]; is; b, is = other[at] {
				at = before(b)
			}
		}
		lengths = append(lengths, length)
	}
	return lengths
}

// partsOf gives each piece the least number of all that it is connected with.
func partsOf(p impl.Pattern) []int64 {
	parts := make([]int64, len(p.Pieces))
	for i := range parts {
		parts[i] = int64(i)
	}
	for range parts {
		for _, s := range p.Seams {
			parts[s.A] = min(parts[s.A], parts[s.B])
			parts[s.B] = parts[s.A]
		}
	}
	return parts
}

// partOf returns one part of a pattern as a pattern of its own.
func partOf(p impl.Pattern, parts []int64, part int64) impl.Pattern {
	var alone impl.Pattern
	numbers := map[int64]int64{}
	for i, x := range p.Pieces {
		if parts[i] == part {
			numbers[int64(i)] = int64(len(alone.Pieces))
			alone.Pieces = append(alone.Pieces, x)
		}
	}
	for _, s := range p.Seams {
		if parts[s.A] == part {
			alone.Seams = append(alone.Seams, seam(numbers[s.A], s.EdgeA, numbers[s.B], s.EdgeB))
		}
	}
	return alone
}

// checkSurface checks for promise 8 what is told of a valid pattern.
func checkSurface(t *testing.T, p impl.Pattern) {
	t.Helper()
	edges, corners := int64(len(edgesOf(p))-len(p.Seams)), cornersOf(p)
	checkTold(t, p, told{fmt.Sprint(openOf(p)), fmt.Sprint(openingsOf(p)), fmt.Sprint(partsOf(p)), corners, corners - edges + int64(len(p.Pieces))})
}

// checkParts checks for promise 8 that each part is a surface with two sides: a ball, with one opening or several, and with handles. Each opening makes the number of Euler less by 1, and each handle by 2.
func checkParts(t *testing.T, p impl.Pattern) {
	t.Helper()
	parts, _ := impl.PartsOf(p)
	var corners, euler int64
	var open, openings int
	for i, part := range parts {
		if int64(i) != part {
			continue
		}
		alone := partOf(p, parts, part)
		count, one := impl.CornersOf(alone)
		number, two := impl.EulerOf(alone)
		edges, three := impl.OpenEdges(alone)
		lengths, four := impl.OpeningsOf(alone)
		left := 2 - number - int64(len(lengths))
		if left < 0 || left%2 != 0 || one+two+three+four != impl.OK {
			t.Errorf("%v is no surface: %d corners, %d by Euler, open edges %v, openings %v", alone, count, number, edges, lengths)
		}
		corners, euler, open, openings = corners+count, euler+number, open+len(edges), openings+len(lengths)
	}
	// All parts together are the pattern.
	allCorners, _ := impl.CornersOf(p)
	allEuler, _ := impl.EulerOf(p)
	allOpen, _ := impl.OpenEdges(p)
	allOpenings, _ := impl.OpeningsOf(p)
	same(t, fmt.Sprint("parts of ", p), []any{corners, euler, open, openings}, []any{allCorners, allEuler, len(allOpen), len(allOpenings)})
	same(t, fmt.Sprint("open edges of ", p), len(allOpen), len(edgesOf(p))-2*len(p.Seams))
}

// eachSewn calls visit for all patterns that arise from one by seams between the open edges from the place first on.
func eachSewn(p impl.Pattern, open [][2]int64, visit func(p impl.Pattern)) {
	if len(open) < 2 {
		visit(p)
		return
	}
	a, others := open[0], open[1:]
	eachSewn(p, others, visit)
	for i, b := range others {
		s := seam(a[0], a[1], b[0], b[1])
		if i%2 == 1 {
			s = seam(b[0], b[1], a[0], a[1])
		}
		q := impl.Pattern{Pieces: p.Pieces, Seams: append(slices.Clone(p.Seams), s)}
		eachSewn(q, append(slices.Clone(others[:i]), others[i+1:]...), visit)
	}
}

// TestAllSmallSurfaces has all seams within one piece, and between a few small ones. The lengths are powers of 2, so that each opening tells its edges.
func TestAllSmallSurfaces(t *testing.T) {
	for _, x := range []struct {
		pieces string
		count  int
	}{
		{"a 1 2 4", 4}, {"a 1 2 4 8", 10}, {"a 1 2 4 8 16", 26}, {"a 1 2 4 8 16 32", 76}, {"a 1 2 4 8 16 32 64", 232}, {"a 1 2 4 8 16 32 64 128", 764},
		{"a 1 2 4, b 8 16 32", 76}, {"a 1 2 4, b 8 16 32 64", 232}, {"a 1 2 4 8, b 16 32 64 128", 764}, {"a 1 2 4 8 16, b 32 64 128", 764}, {"a 1 2 4, b 8 16 32, c 64 128 256", 2620},
	} {
		p := pattern(x.pieces, "", 0)
		count := 0
		eachSewn(p, edgesOf(p), func(p impl.Pattern) {
			checkSurface(t, p)
			checkParts(t, p)
			count++
		})
		same(t, "patterns of "+x.pieces, count, x.count)
	}
}

// TestLargeSurfaces is for promise 8, with up to ten pieces, and seams that look random.
func TestLargeSurfaces(t *testing.T) {
	var n numbers
	parts := map[int]int{}
	for _, p := range append(patternsOf(&n, 120), goodPatterns()...) {
		checkSurface(t, p)
		checkParts(t, p)
		different := map[int64]bool{}
		for _, part := range partsOf(p) {
			different[part] = true
		}
		parts[len(different)]++
	}
	for count := 1; count <= 10; count++ {
		if parts[count] < 10 {
			t.Errorf("only %d patterns have %d parts", parts[count], count)
		}
	}
}

// TestOrderOfSeams has the same seams in another order, and with both edges exchanged, which changes nothing that is told of a surface.
func TestOrderOfSeams(t *testing.T) {
	var n numbers
	for _, p := range patternsOf(&n, 30) {
		q := like(p)
		shuffle(&n, q.Seams)
		for i, s := range q.Seams {
			if n.from(0, 1) == 1 {
				q.Seams[i] = seam(s.B, s.EdgeB, s.A, s.EdgeA)
			}
		}
		checkSurface(t, q)
		corners, edges := cornersOf(p), int64(len(edgesOf(p))-len(p.Seams))
		checkTold(t, q, told{fmt.Sprint(openOf(p)), fmt.Sprint(openingsOf(p)), fmt.Sprint(partsOf(p)), corners, corners - edges + int64(len(p.Pieces))})
	}
}
