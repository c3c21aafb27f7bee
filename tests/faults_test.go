package tests

import (
	"fmt"
	"math"
	"testing"

	"loop.example/g01043/impl"
)

// badMost are no differences that can be allowed.
var badMost = []int64{-1, 10001, -2, -10000, 10002, 1 << 32, -1 << 32, math.MinInt64, math.MinInt64 + 1, math.MaxInt64 - 1, math.MaxInt64}

func TestSeamDifferences(t *testing.T) {
	for _, x := range []struct {
		pieces, seams string
		want          []int64
	}{
		{"a 1 2 3", "", nil}, {"a 100 200 100 200", "0.0=0.2", []int64{0}}, {"a 100 200 103 200", "0.0=0.2", []int64{3}}, {"a 100 200 103 200", "0.2=0.0", []int64{3}}, {"a 1 20 300 4000", "0.0=0.1 0.2=0.3", []int64{19, 3700}}, {"a 1 20 300 4000", "0.2=0.3 0.1=0.0", []int64{3700, 19}},
		{"a 1 10000 1", "0.0=0.1", []int64{9999}}, {"a 1 10000 1", "0.1=0.2", []int64{9999}}, {"a 1 2 3, b 40 50 60", "0.0=1.0 0.1=1.1 0.2=1.2", []int64{39, 48, 57}}, {"a 1 2 3, b 40 50 60", "1.2=0.0 0.2=1.0", []int64{59, 37}}, {"a 5 5 5, b 5 5 5", "0.0=1.0 0.1=1.1 0.2=1.2", []int64{0, 0, 0}},
	} {
		got, code := impl.SeamDifferences(pattern(x.pieces, x.seams, 0))
		same(t, "differences of "+x.pieces+" with "+x.seams, []any{got, code}, []any{x.want, int64(impl.OK)})
	}
}

// differencesOf returns by how much the edges of each seam differ.
func differencesOf(p impl.Pattern) []int64 {
	var list []int64
	for _, s := range p.Seams {
		d := lengthAt(p, [2]int64{s.A, s.EdgeA}) - lengthAt(p, [2]int64{s.B, s.EdgeB})
		list = append(list, max(d, -d))
	}
	return list
}

// faultOf returns what FirstFault has to return for a valid pattern.
func faultOf(p impl.Pattern, most int64) [3]int64 {
	for i, d := range differencesOf(p) {
		if d > most {
			return [3]int64{1, int64(i), impl.OK}
		}
	}
	for i, part := range partsOf(p) {
		if part > 0 {
			return [3]int64{2, int64(i), impl.OK}
		}
	}
	if count := int64(len(openingsOf(p))); count != p.Openings {
		return [3]int64{3, count, impl.OK}
	}
	return [3]int64{0, 0, impl.ErrNotFound}
}

// checkFault checks both functions that look for faults.
func checkFault(t *testing.T, p impl.Pattern, most int64, want [3]int64) {
	t.Helper()
	kind, at, code := impl.FirstFault(p, most)
	same(t, fmt.Sprint("fault of ", p, " with ", most), [3]int64{kind, at, code}, want)
	sound, code := impl.IsSound(p, most)
	same(t, fmt.Sprint("is sound: ", p, " with ", most), []any{sound, code}, []any{want[2] == impl.ErrNotFound, int64(impl.OK)})
}

func TestFirstFault(t *testing.T) {
	none := [3]int64{0, 0, impl.ErrNotFound}
	fault := func(kind, at int64) [3]int64 { return [3]int64{kind, at, impl.OK} }
	const quad, four = "a 100 200 103 200", "a 1 1 1, b 2 2 2, c 3 3 3, d 4 4 4"
	for _, x := range []struct {
		pieces, seams  string
		openings, most int64
		want           [3]int64
	}{
		{"a 1 2 3", "", 1, 0, none}, {"a 1 2 3", "", 1, 10000, none}, {"a 1 2 3", "", 0, 0, fault(3, 1)}, {"a 1 2 3", "", 2, 0, fault(3, 1)}, {"a 1 2 3", "", 100, 0, fault(3, 1)},
		// A difference of just most, and of one more.
		{quad, "0.0=0.2", 2, 3, none}, {quad, "0.0=0.2", 2, 2, fault(1, 0)}, {quad, "0.2=0.0", 2, 3, none}, {quad, "0.2=0.0", 2, 2, fault(1, 0)}, {quad, "0.1=0.3", 2, 0, none}, {quad, "0.1=0.3 0.0=0.2", 0, 3, none}, {quad, "0.1=0.3 0.0=0.2", 0, 2, fault(1, 1)}, {quad, "0.0=0.2 0.1=0.3", 0, 2, fault(1, 0)},
		{"a 1 10000 1", "0.0=0.1", 1, 9999, none}, {"a 1 10000 1", "0.0=0.1", 1, 9998, fault(1, 0)}, {"a 1 10000 1", "0.0=0.1", 1, 10000, none}, {"a 1 10000 1", "0.1=0.0", 1, 0, fault(1, 0)}, {"a 1 1 10000", "0.0=0.1", 1, 0, none}, {"a 1 2 10000", "0.0=0.1", 1, 0, fault(1, 0)}, {"a 1 2 10000", "0.0=0.1", 1, 1, none},
		// The first one of several seams, not the worst one.
		{"a 1 2 4 8 16 32", "0.0=0.1 0.2=0.3 0.4=0.5", 0, 16, none}, {"a 1 2 4 8 16 32", "0.0=0.1 0.2=0.3 0.4=0.5", 0, 15, fault(1, 2)}, {"a 1 2 4 8 16 32", "0.0=0.1 0.2=0.3 0.4=0.5", 0, 4, fault(1, 2)}, {"a 1 2 4 8 16 32", "0.0=0.1 0.2=0.3 0.4=0.5", 0, 3, fault(1, 1)}, {"a 1 2 4 8 16 32", "0.0=0.1 0.2=0.3 0.4=0.5", 0, 1, fault(1, 1)}, {"a 1 2 4 8 16 32", "0.0=0.1 0.2=0.3 0.4=0.5", 0, 0, fault(1, 0)}, {"a 1 2 4 8 16 32", "0.4=0.5 0.2=0.3 0.0=0.1", 0, 0, fault(1, 0)},
		// Parts.
		{"a 1 1 1, b 2 2 2", "", 2, 0, fault(2, 1)}, {four, "", 4, 0, fault(2, 1)}, {four, "0.0=1.0", 3, 9, fault(2, 2)}, {four, "0.0=1.0 1.1=2.1", 2, 9, fault(2, 3)}, {four, "0.0=1.0 1.1=2.1 2.0=3.0", 1, 9, none}, {four, "0.0=3.0", 3, 9, fault(2, 1)}, {four, "0.0=3.0 3.1=1.0", 2, 9, fault(2, 2)}, {four, "3.0=1.0 3.1=2.0", 2, 9, fault(2, 1)}, {four, "0.0=2.0 1.0=3.0", 2, 9, fault(2, 1)}, {four, "3.0=2.0 2.1=1.0 1.1=0.0", 1, 9, none}, {four, "1.0=1.1 2.0=2.1", 4, 9, fault(2, 1)},
		// Openings.
		{"a 9 9 9 9", "0.0=0.2", 2, 0, none}, {"a 9 9 9 9", "0.0=0.2", 1, 0, fault(3, 2)}, {"a 9 9 9 9", "0.0=0.2", 3, 0, fault(3, 2)}, {"a 9 9 9 9", "0.0=0.2", 0, 0, fault(3, 2)}, {"a 9 9 9 9", "0.0=0.1 0.2=0.3", 0, 0, none}, {"a 9 9 9 9", "0.0=0.1 0.2=0.3", 1, 0, fault(3, 0)}, {"a 9 9 9 9", "0.0=0.2 0.1=0.3", 0, 0, none}, {"a 9 9 9 9", "0.0=0.2 0.1=0.3", 100, 0, fault(3, 0)},
		// Several faults at once.
		{"a 1 2 3, b 4 5 6", "0.0=0.1", 9, 0, fault(1, 0)}, {"a 1 2 3, b 4 5 6", "0.0=0.1", 9, 1, fault(2, 1)}, {"a 1 2 3, b 4 5 6", "0.0=0.1", 2, 0, fault(1, 0)}, {"a 1 2 3, b 4 5 6", "1.2=0.0", 9, 4, fault(1, 0)}, {"a 1 2 3, b 4 5 6", "1.2=0.0", 9, 5, fault(3, 1)}, {"a 1 2 3, b 4 5 6", "1.2=0.0", 1, 5, none}, {four, "2.0=3.0 0.0=3.1", 9, 3, fault(2, 1)}, {four, "2.0=3.0 0.0=3.1", 9, 2, fault(1, 1)}, {four, "2.0=3.0 0.0=3.1", 2, 0, fault(1, 0)}, {"a 100 200 103 200, b 5 5 5", "0.0=0.2", 0, 2, fault(1, 0)}, {"a 100 200 103 200, b 5 5 5", "0.0=0.2", 0, 3, fault(2, 1)},
	} {
		checkFault(t, pattern(x.pieces, x.seams, x.openings), x.most, x.want)
	}
}

// TestErrorsOfMost has valid patterns, with and without faults.
func TestErrorsOfMost(t *testing.T) {
	for _, p := range append(goodPatterns(), pattern("a 100 200 103 200", "0.0=0.2", 2)) {
		for _, most := range badMost {
			kind, at, code := impl.FirstFault(p, most)
			same(t, fmt.Sprint("fault of ", p, " with ", most), []any{kind, at, code}, []any{int64(0), int64(0), int64(impl.ErrRange)})
			sound, code := impl.IsSound(p, most)
			same(t, fmt.Sprint("is sound: ", p, " with ", most), []any{sound, code}, []any{false, int64(impl.ErrRange)})
		}
		for _, most := range []int64{0, 1, 2, 9999, 10000} {
			checkFault(t, p, most, faultOf(p, most))
		}
	}
}

// closeTo makes the second edge of each seam as long as the first one, but for at most most.
func closeTo(n *numbers, p impl.Pattern, most int64) impl.Pattern {
	p = like(p)
	for _, s := range p.Seams {
		length := lengthAt(p, [2]int64{s.A, s.EdgeA})
		p.Pieces[s.B].Edges[s.EdgeB] = n.from(max(1, length-most), min(10000, length+most))
	}
	return p
}

// TestSoundJustWithoutFaults is for promise 8: of patterns whose seams nearly or just fit, in one part or in several, with the openings that are left or with others.
func TestSoundJustWithoutFaults(t *testing.T) {
	var n numbers
	kinds := map[int64]int{}
	for i, p := range patternsOf(&n, 240) {
		most := []int64{0, 1, 5, 300, 9999, 10000}[i%6]
		p = closeTo(&n, p, most+n.from(0, 4)/4)
		if n.from(0, 3) > 0 {
			p.Openings = int64(len(openingsOf(p)))
		}
		got, code := impl.SeamDifferences(p)
		same(t, fmt.Sprint("differences of ", p), []any{got, code}, []any{differencesOf(p), int64(impl.OK)})
		want := faultOf(p, most)
		checkFault(t, p, most, want)
		kinds[want[0]]++
		if want[0] == 0 {
			// One opening more than there are, or one less, is a fault.
			count := p.Openings
			p.Openings = count + 1
			checkFault(t, p, most, [3]int64{3, count, impl.OK})
			if count > 0 {
				p.Openings = count - 1
				checkFault(t, p, most, [3]int64{3, count, impl.OK})
			}
		}
	}
	for kind := range int64(4) {
		if kinds[kind] < 100 {
			t.Errorf("only %d patterns have the fault %d", kinds[kind], kind)
		}
	}
}
