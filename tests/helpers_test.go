package tests

import (
	"fmt"
	"slices"
	"strconv"
	"strings"
	"testing"

	"loop.example/g01043/impl"
)

// same compares what was got with what was wanted as text, where nil and empty slices are equal.
func same(t *testing.T, name string, got, want any) {
	t.Helper()
	if g, w := fmt.Sprintf("%#v", plain(got)), fmt.Sprintf("%#v", plain(want)); g != w {
		t.Errorf("%s: got %s, want %s", name, g, w)
	}
}

// plain replaces empty slices by nil, also those in a list of results.
func plain(x any) any {
	switch s := x.(type) {
	case []any:
		all := make([]any, len(s))
		for i, y := range s {
			all[i] = plain(y)
		}
		return all
	case []impl.Last:
		if len(s) == 0 {
			return []impl.Last(nil)
		}
	case []impl.Fraction:
		if len(s) == 0 {
			return []impl.Fraction(nil)
		}
	case []impl.Spot:
		if len(s) == 0 {
			return []impl.Spot(nil)
		}
	case []impl.Strip:
		if len(s) == 0 {
			return []impl.Strip(nil)
		}
	case []impl.Block:
		if len(s) == 0 {
			return []impl.Block(nil)
		}
	case impl.Piece:
		return plainPiece(s)
	case impl.Pattern:
		return plainPattern(s)
	case []int64:
		if len(s) == 0 {
			return []int64(nil)
		}
	case []string:
		if len(s) == 0 {
			return []string(nil)
		}
	case [][]int64:
		all := make([]any, len(s))
		for i, y := range s {
			all[i] = plain(y)
		}
		return all
	case int:
		return int64(s)
	}
	return x
}

// plainPiece replaces empty edges by nil.
func plainPiece(x impl.Piece) impl.Piece {
	x.Edges = append([]int64(nil), x.Edges...)
	return x
}

// plainPattern replaces empty lists by nil, also those of the pieces.
func plainPattern(p impl.Pattern) impl.Pattern {
	var pieces []impl.Piece
	for _, x := range p.Pieces {
		pieces = append(pieces, plainPiece(x))
	}
	return impl.Pattern{Pieces: pieces, Seams: append([]impl.Seam(nil), p.Seams...), Openings: p.Openings}
}

// numbers is a row of numbers that look random, but are the same in every run.
type numbers uint64

// from returns the next number from low to high.
func (n *numbers) from(low, high int64) int64 {
	*n = *n*6364136223846793005 + 1442695040888963407
	return low + int64(uint64(*n)>>33)%(high-low+1)
}

// changedText returns a text with one byte more, with another byte or with one byte less; the bytes come from others.
func changedText(n *numbers, text, others string) string {
	at, other := n.from(0, int64(len(text)-1)), string(others[n.from(0, int64(len(others)-1))])
	return []string{text[:at] + other + text[at:], text[:at] + other + text[at+1:], text[:at] + text[at+1:]}[n.from(0, 2)]
}

func foot(length, ball, instep, heel int64) impl.Foot {
	return impl.Foot{Length: length, Ball: ball, Instep: instep, Heel: heel}
}

// long returns a foot with a length, and with other measures that never matter.
func long(length int64) impl.Foot { return foot(length, 2400, 2500, 3200) }

func longs(lengths ...int64) []impl.Foot {
	var list []impl.Foot
	for _, x := range lengths {
		list = append(list, long(x))
	}
	return list
}

// measuresOf returns pointers to the measures of a foot, in the order of the fields.
func measuresOf(f *impl.Foot) [4]*int64 {
	return [4]*int64{&f.Length, &f.Ball, &f.Instep, &f.Heel}
}

// feetOf returns count feet with measures from low to high.
func feetOf(n *numbers, count, low, high int64) []impl.Foot {
	var list []impl.Foot
	for range count {
		list = append(list, foot(n.from(low, high), n.from(low, high), n.from(low, high), n.from(low, high)))
	}
	return list
}

// daysOf returns count strictly increasing days from 0 to at most 10000, if step is small enough.
func daysOf(n *numbers, count, step int64) []int64 {
	var days []int64
	for day := n.from(0, step); int64(len(days)) < count; day += n.from(1, step) {
		days = append(days, day)
	}
	return days
}

func last(name string, length, ball, instep, heel, pitch int64) impl.Last {
	return impl.Last{Name: name, Length: length, Ball: ball, Instep: instep, Heel: heel, Pitch: pitch}
}

// measuresOfLast returns pointers to the measures of a last, in the order of the fields.
func measuresOfLast(x *impl.Last) [4]*int64 {
	return [4]*int64{&x.Length, &x.Ball, &x.Instep, &x.Heel}
}

// numbered returns the names a00, a01 and so on.
func numbered(i int64) string { return fmt.Sprintf("a%02d", i) }

// lastsOf returns count lasts with measures from low to high.
func lastsOf(n *numbers, count, low, high int64) []impl.Last {
	var list []impl.Last
	for i := range count {
		list = append(list, last(numbered(i), n.from(low, high), n.from(low, high), n.from(low, high), n.from(low, high), n.from(0, 1000)))
	}
	return list
}

func fit(low, high, girth int64, weights ...int64) impl.Fit {
	return impl.Fit{MinRoom: low, MaxRoom: high, Girth: girth, Weights: weights}
}

func grade(length, ball, instep, heel, pitch int64) impl.Grade {
	return impl.Grade{Length: length, Ball: ball, Instep: instep, Heel: heel, Pitch: pitch}
}

// numbersOf returns pointers to the numbers of a grade, in the order of the fields.
func numbersOf(g *impl.Grade) [5]*int64 {
	return [5]*int64{&g.Length, &g.Ball, &g.Instep, &g.Heel, &g.Pitch}
}

// graded returns pointers to the five measures of a last that grow, in the order of the fields.
func graded(x *impl.Last) [5]*int64 {
	return [5]*int64{&x.Length, &x.Ball, &x.Instep, &x.Heel, &x.Pitch}
}

// gradeOf returns a grade with numbers from low to high.
func gradeOf(n *numbers, low, high int64) impl.Grade {
	return grade(n.from(low, high), n.from(low, high), n.from(low, high), n.from(low, high), n.from(low, high))
}

// lengthsOf returns count lengths from low to high.
func lengthsOf(n *numbers, count, low, high int64) []int64 {
	var list []int64
	for range count {
		list = append(list, n.from(low, high))
	}
	return list
}

func spot(x, y int64) impl.Spot { return impl.Spot{X: x, Y: y} }

// spots returns the spots of a text, which need not be an outline. It panics if there are none, as the tests write these texts.
func spots(text string) []impl.Spot {
	var list []impl.Spot
	for _, word := range strings.Fields(text) {
		x, y, _ := strings.Cut(word, ",")
		list = append(list, spot(number(x), number(y)))
	}
	return list
}

func number(s string) int64 {
	n, err := strconv.ParseInt(s, 10, 64)
	if err != nil {
		panic(err)
	}
	return n
}

// bow returns count corners that go around to the left, and none of which is on the straight line through two others.
func bow(count int64) []impl.Spot {
	var list []impl.Spot
	for x := range count {
		list = append(list, spot(x, x*x))
	}
	return list
}

// ways returns the same closed line from each corner on, and the other way round.
func ways(list []impl.Spot) [][]impl.Spot {
	var all [][]impl.Spot
	for i := range list {
		one := append(slices.Clone(list[i:]), list[:i]...)
		other := slices.Clone(one)
		slices.Reverse(other)
		all = append(all, one, other)
	}
	return all
}

// spotsOf returns count spots with X and Y from low to high.
func spotsOf(n *numbers, count, low, high int64) []impl.Spot {
	var list []impl.Spot
	for range count {
		list = append(list, spot(n.from(low, high), n.from(low, high)))
	}
	return list
}

// outlineOf returns an outline with count corners from low to high, for which there must be room enough. It lays spots that it has drawn in another order until no sides meet.
func outlineOf(n *numbers, count, low, high int64) []impl.Spot {
	for {
		list := spotsOf(n, count, low, high)
		for range 1000 {
			i, j, meet := firstMeeting(list)
			if !meet {
				break
			}
			slices.Reverse(list[i+1 : j+1])
		}
		if isOutline(list) {
			return list
		}
	}
}

// outlinesOf returns outlines of all numbers of corners: small ones with many corners on straight lines, larger ones, and some that have the size of all leather.
func outlinesOf(n *numbers, rounds int64) [][]impl.Spot {
	var all [][]impl.Spot
	for round := range rounds {
		for count := int64(3); count <= 24; count++ {
			low, size := n.from(0, 30), max(3, count*2/3)
			switch round % 4 {
			case 1:
				size = 30
			case 2:
				low, size = n.from(0, 9000), 1000
			case 3:
				low, size = 0, 10000
			}
			all = append(all, outlineOf(n, count, low, low+size))
		}
	}
	return all
}

// isOutline reports what ValidOutline has to report of spots on leather.
func isOutline(list []impl.Spot) bool {
	if len(list) < 3 || len(list) > 24 {
		return false
	}
	for i, a := range list {
		b, c := list[(i+1)%len(list)], list[(i+2)%len(list)]
		// The slopes are equal, or two corners are.
		if (b.Y-a.Y)*(c.X-b.X) == (c.Y-b.Y)*(b.X-a.X) {
			return false
		}
	}
	_, _, meet := firstMeeting(list)
	return !meet
}

// firstMeeting returns the numbers of two sides that meet without being neighbours.
func firstMeeting(list []impl.Spot) (int, int, bool) {
	count := len(list)
	for i := range count {
		for j := i + 2; j < count; j++ {
			if (j+1)%count != i && meet(list[i], list[i+1], list[j], list[(j+1)%count]) {
				return i, j, true
			}
		}
	}
	return 0, 0, false
}

// meet solves a + (b - a) * t / d = c + (e - c) * u / d for t and u.
func meet(a, b, c, e impl.Spot) bool {
	d := (b.X-a.X)*(e.Y-c.Y) - (b.Y-a.Y)*(e.X-c.X)
	t := (c.X-a.X)*(e.Y-c.Y) - (c.Y-a.Y)*(e.X-c.X)
	u := (c.X-a.X)*(b.Y-a.Y) - (c.Y-a.Y)*(b.X-a.X)
	if d < 0 {
		d, t, u = -d, -t, -u
	}
	if d > 0 {
		return 0 <= t && t <= d && 0 <= u && u <= d
	}
	// Both have the same direction: they meet if they are on one straight line, and nothing is between them.
	return u == 0 && overlap(a.X, b.X, c.X, e.X) && overlap(a.Y, b.Y, c.Y, e.Y)
}

func overlap(a, b, c, d int64) bool { return max(min(a, b), min(c, d)) <= min(max(a, b), max(c, d)) }

func piece(name string, edges ...int64) impl.Piece { return impl.Piece{Name: name, Edges: edges} }

func seam(a, edgeA, b, edgeB int64) impl.Seam {
	return impl.Seam{A: a, EdgeA: edgeA, B: b, EdgeB: edgeB}
}

// piecesOf returns the pieces of a text such as `vamp 100 200 100, tongue 5 5 5`, which need not be valid.
func piecesOf(text string) []impl.Piece {
	var list []impl.Piece
	for _, part := range strings.Split(text, ",") {
		words := strings.Fields(part)
		if len(words) == 0 {
			continue
		}
		x := piece(words[0])
		for _, word := range words[1:] {
			x.Edges = append(x.Edges, number(word))
		}
		list = append(list, x)
	}
	return list
}

// seamsOf returns the seams of a text such as `0.1=2.3 0.0=0.2`, which need not exist: an edge is told by its piece and its number.
func seamsOf(text string) []impl.Seam {
	var list []impl.Seam
	for _, word := range strings.Fields(text) {
		one, other, _ := strings.Cut(word, "=")
		a, edgeA, _ := strings.Cut(one, ".")
		b, edgeB, _ := strings.Cut(other, ".")
		list = append(list, seam(number(a), number(edgeA), number(b), number(edgeB)))
	}
	return list
}

func pattern(pieces, seams string, openings int64) impl.Pattern {
	return impl.Pattern{Pieces: piecesOf(pieces), Seams: seamsOf(seams), Openings: openings}
}

// like returns the same pattern in other memory.
func like(p impl.Pattern) impl.Pattern { return plainPattern(p) }

// lengthAt returns the length of an edge of a pattern.
func lengthAt(p impl.Pattern, at [2]int64) int64 { return p.Pieces[at[0]].Edges[at[1]] }

// edgesOf returns the pieces and the numbers of all edges of a pattern, in order.
func edgesOf(p impl.Pattern) [][2]int64 {
	var list [][2]int64
	for i, x := range p.Pieces {
		for k := range x.Edges {
			list = append(list, [2]int64{int64(i), int64(k)})
		}
	}
	return list
}

// shuffle brings a list into another order.
func shuffle[T any](n *numbers, list []T) {
	for i := range list {
		j := n.from(int64(i), int64(len(list)-1))
		list[i], list[j] = list[j], list[i]
	}
}

// looseOf returns a pattern without seams, of count pieces with 3 to most edges from low to high.
func looseOf(n *numbers, count, most, low, high int64) impl.Pattern {
	var p impl.Pattern
	for i := range count {
		p.Pieces = append(p.Pieces, piece(numbered(i), lengthsOf(n, n.from(3, most), low, high)...))
	}
	return p
}

// sewnOf returns a pattern with at most count seams between edges that look random.
func sewnOf(n *numbers, p impl.Pattern, count int64) impl.Pattern {
	p = like(p)
	edges := edgesOf(p)
	shuffle(n, edges)
	for i := 0; i+1 < len(edges) && int64(i) < 2*count; i += 2 {
		a, b := edges[i], edges[i+1]
		p.Seams = append(p.Seams, seam(a[0], a[1], b[0], b[1]))
	}
	return p
}

// patternsOf returns patterns of all numbers of pieces, without seams, with a few of them, with many and with all that are possible.
func patternsOf(n *numbers, rounds int64) []impl.Pattern {
	var all []impl.Pattern
	for round := range rounds {
		for count := int64(1); count <= 10; count++ {
			p := looseOf(n, count, []int64{3, 4, 8}[round%3], 1, []int64{3, 100, 10000}[round/3%3])
			seams := []int64{0, 40, count - 1, count, n.from(0, 2*count), n.from(count, 4*count)}[round%6]
			p = sewnOf(n, p, seams)
			p.Openings = n.from(0, 4)
			all = append(all, p)
		}
	}
	return all
}

func strip(length, allow, left, right int64) impl.Strip {
	return impl.Strip{Length: length, Allow: allow, Left: left, Right: right}
}

// strips returns the edges of a text such as `400+30(12,8) 300+0(5,5)`, which need not be valid. It panics if a word is no edge, as the tests write these texts.
func strips(text string) []impl.Strip {
	var list []impl.Strip
	for _, word := range strings.Fields(text) {
		var x impl.Strip
		if _, err := fmt.Sscanf(word, "%d+%d(%d,%d)", &x.Length, &x.Allow, &x.Left, &x.Right); err != nil {
			panic(err)
		}
		list = append(list, x)
	}
	return list
}

// fieldsOf returns pointers to the numbers of an edge, in the order of the fields.
func fieldsOf(x *impl.Strip) [4]*int64 { return [4]*int64{&x.Length, &x.Allow, &x.Left, &x.Right} }

// stripsOf returns count edges with lengths up to most; one of three has no allowance.
func stripsOf(n *numbers, count, most int64) []impl.Strip {
	var list []impl.Strip
	for range count {
		x := strip(n.from(1, most), n.from(1, 200), n.from(0, 200), n.from(0, 200))
		if n.from(0, 2) == 0 {
			x.Allow = 0
		}
		list = append(list, x)
	}
	return list
}

// placesOf returns count strictly increasing places from low to high, of which there must be enough.
func placesOf(n *numbers, count, low, high int64) []int64 {
	var list []int64
	for left := count - 1; left >= 0; left-- {
		x := n.from(low, min(high-left, low+2*(high-low)/(left+1)))
		list = append(list, x)
		low = x + 1
	}
	return list
}

func cut(width, height, quality, worth int64) impl.Cut {
	return impl.Cut{Width: width, Height: height, Quality: quality, Worth: worth}
}

// cuts returns the pieces of a text such as `2x1q3=5 1x1q2=4`, which need not be valid: the width, the height, the quality and the worth. It panics if a word is no piece, as the tests write these texts.
func cuts(text string) []impl.Cut {
	var list []impl.Cut
	for _, word := range strings.Fields(text) {
		var c impl.Cut
		if _, err := fmt.Sscanf(word, "%dx%dq%d=%d", &c.Width, &c.Height, &c.Quality, &c.Worth); err != nil {
			panic(err)
		}
		list = append(list, c)
	}
	return list
}

// numbersOfCut returns pointers to the numbers of a piece, in the order of the fields.
func numbersOfCut(c *impl.Cut) [4]*int64 {
	return [4]*int64{&c.Width, &c.Height, &c.Quality, &c.Worth}
}

// hideOf returns a hide with so many rows and columns, each field with one of the letters.
func hideOf(n *numbers, rows, columns int64, letters string) []string {
	var hide []string
	for range rows {
		var row []byte
		for range columns {
			row = append(row, letters[n.from(0, int64(len(letters))-1)])
		}
		hide = append(hide, string(row))
	}
	return hide
}

// cutsOf returns count pieces with at most so many columns and rows, and worth up to most.
func cutsOf(n *numbers, count, columns, rows, most int64) []impl.Cut {
	var list []impl.Cut
	for range count {
		list = append(list, cut(n.from(1, columns), n.from(1, rows), n.from(1, 3), n.from(0, most)))
	}
	return list
}

// qualityOf returns the quality of a letter.
func qualityOf(letter byte) int64 {
	switch letter {
	case 'a':
		return 3
	case 'b':
		return 2
	case 'c':
		return 1
	}
	return 0
}

// coverOf returns the rows and the columns of all fields that a piece has at a field, also of those beside the hide.
func coverOf(rows []string, c impl.Cut, at int64) [][2]int64 {
	columns := int64(len(rows[0]))
	var all [][2]int64
	for down := range c.Height {
		for across := range c.Width {
			all = append(all, [2]int64{at/columns + down, at%columns + across})
		}
	}
	return all
}

// fitsAt reports whether all fields of a piece are on the hide and good enough.
func fitsAt(rows []string, c impl.Cut, at int64) bool {
	for _, field := range coverOf(rows, c, at) {
		if field[0] >= int64(len(rows)) || field[1] >= int64(len(rows[0])) || qualityOf(rows[field[0]][field[1]]) < c.Quality {
			return false
		}
	}
	return true
}

// painted paints the pieces of a plan onto the rows of a hide, one after the other, until one does not fit or has a field of another one; it returns this one, too, and -1 if there is none.
func painted(rows []string, list []impl.Cut, plan []int64) ([]string, int64) {
	var lines [][]byte
	for _, row := range rows {
		lines = append(lines, []byte(row))
	}
	for i, at := range plan {
		if at == -1 {
			continue
		}
		if !fitsAt(rows, list[i], at) {
			return nil, int64(i)
		}
		for _, field := range coverOf(rows, list[i], at) {
			if letter := &lines[field[0]][field[1]]; strings.Contains("abcx", string(*letter)) {
				*letter = "0123"[i]
			} else {
				return nil, int64(i)
			}
		}
	}
	var texts []string
	for _, line := range lines {
		texts = append(texts, string(line))
	}
	return texts, -1
}

// worthOf returns what the pieces of a plan are worth that are cut.
func worthOf(list []impl.Cut, plan []int64) int64 {
	var worth int64
	for i, at := range plan {
		if at >= 0 {
			worth += list[i].Worth
		}
	}
	return worth
}

// eachPlan visits all plans that are not faulty, the last one in the order of the document first.
func eachPlan(rows []string, list []impl.Cut, visit func(plan []int64)) {
	var try func(plan []int64)
	try = func(plan []int64) {
		if _, fault := painted(rows, list, plan); fault >= 0 {
			return
		}
		if len(plan) == len(list) {
			visit(plan)
			return
		}
		for at := int64(len(rows)*len(rows[0])) - 1; at >= -1; at-- {
			try(append(slices.Clone(plan), at))
		}
	}
	try(nil)
}

// bestOf returns the first one of all plans with the greatest worth, and this worth.
func bestOf(rows []string, list []impl.Cut) ([]int64, int64) {
	var best []int64
	most := int64(-1)
	eachPlan(rows, list, func(plan []int64) {
		worth := worthOf(list, plan)
		if worth > most || worth == most && slices.Compare(plan, best) < 0 {
			best, most = plan, worth
		}
	})
	return best, most
}

func block(width, height int64) impl.Block { return impl.Block{Width: width, Height: height} }

// blocks returns the blocks of a text such as `30x10 40x9`, which need not be valid. It panics if a word is no block, as the tests write these texts.
func blocks(text string) []impl.Block {
	var list []impl.Block
	for _, word := range strings.Fields(text) {
		width, height, _ := strings.Cut(word, "x")
		list = append(list, block(number(width), number(height)))
	}
	return list
}

// blocksOf returns count blocks with Widths and Heights that are not greater than those told.
func blocksOf(n *numbers, count, width, height int64) []impl.Block {
	var list []impl.Block
	for range count {
		list = append(list, block(n.from(1, width), n.from(1, height)))
	}
	return list
}

// widthsAndHeights returns for each row the sum of the Widths of its blocks, and the greatest Height of them.
func widthsAndHeights(list []impl.Block, rows []int64) (widths, heights [9]int64) {
	for i, k := range rows {
		widths[k] += list[i].Width
		heights[k] = max(heights[k], list[i].Height)
	}
	return widths, heights
}

// faultOfRows returns the first row that is too wide, -1 if there is none.
func faultOfRows(list []impl.Block, roll int64, rows []int64) int64 {
	widths, _ := widthsAndHeights(list, rows)
	for k, width := range widths {
		if width > roll {
			return int64(k)
		}
	}
	return -1
}

// lengthOfRows returns the sum of the heights of all rows.
func lengthOfRows(list []impl.Block, rows []int64) int64 {
	_, heights := widthsAndHeights(list, rows)
	return totalOf(heights[:])
}

// areaOf returns what blocks cover.
func areaOf(list []impl.Block) int64 {
	var area int64
	for _, b := range list {
		area += b.Width * b.Height
	}
	return area
}

// eachRows visits all rows of count blocks, in which numbers are less than most. What it visits changes afterwards.
func eachRows(count int, most int64, visit func(rows []int64)) {
	rows := make([]int64, count)
	var try func(at int)
	try = func(at int) {
		if at == count {
			visit(rows)
			return
		}
		for k := range most {
			rows[at] = k
			try(at + 1)
		}
	}
	try(0)
}

// eachParting visits all rows of count blocks, in which each row first stands behind all lesser ones, the last ones first. What it visits changes afterwards.
func eachParting(count int, visit func(rows []int64)) {
	rows := make([]int64, count)
	var try func(at int, next int64)
	try = func(at int, next int64) {
		if at == count {
			visit(rows)
			return
		}
		for k := next; k >= 0; k-- {
			rows[at] = k
			try(at+1, max(next, k+1))
		}
	}
	try(0, 0)
}

// bestRowsOf returns the first ones of all rows without a fault that have the least length, this length, and how many such rows there are.
func bestRowsOf(list []impl.Block, roll int64) (best []int64, least, ties int64) {
	eachParting(len(list), func(rows []int64) {
		if faultOfRows(list, roll, rows) >= 0 {
			return
		}
		length := lengthOfRows(list, rows)
		switch {
		case ties == 0 || length < least:
			best, least, ties = slices.Clone(rows), length, 1
		case length == least:
			ties++
			if slices.Compare(rows, best) < 0 {
				best = slices.Clone(rows)
			}
		}
	})
	return best, least, ties
}

func leather(along, across, set, most int64) impl.Leather {
	return impl.Leather{Along: along, Across: across, Set: set, Most: most}
}

// numbersOfLeather returns pointers to the numbers of a leather, in the order of the fields.
func numbersOfLeather(l *impl.Leather) [4]*int64 {
	return [4]*int64{&l.Along, &l.Across, &l.Set, &l.Most}
}

// leatherOf returns a leather that gives up to give.
func leatherOf(n *numbers, give int64) impl.Leather {
	return leather(n.from(0, give), n.from(0, give), n.from(0, 1000), n.from(1, 500))
}
