package tests

import (
	"fmt"
	"regexp"
	"strings"
	"testing"

	"loop.example/g01043/impl"
)

// pieceTexts are the texts of goodPieces.
var pieceTexts = []string{
	"a 1 1 1", "vamp 100 200 100 200", "abcdefghijkl 10000 10000 10000", "z-9 1 10000 2 9999", "b- 5 6 7 8 9",
	"c 1 2 3 4 5 6 7", "d0 1 2 3 4 5 6 7 8", "e 10000 10000 10000 10000 10000 10000 10000 10000",
}

func TestPieceText(t *testing.T) {
	for i, x := range goodPieces() {
		same(t, "text", impl.PieceText(x), pieceTexts[i])
		read, ok := impl.ReadPiece(pieceTexts[i])
		same(t, "piece of "+pieceTexts[i], []any{read, ok}, []any{x, true})
	}
	for _, x := range badPieces() {
		same(t, fmt.Sprint("text of ", x), impl.PieceText(x), "")
	}
}

// writtenPiece writes a piece that need not be valid.
func writtenPiece(x impl.Piece) string {
	text := x.Name
	for _, length := range x.Edges {
		text += fmt.Sprint(" ", length)
	}
	return text
}

func TestTextsOfManyPieces(t *testing.T) {
	var n numbers
	for i := range int64(2000) {
		x := piece(numbered(i%100), lengthsOf(&n, 3+i%6, 1, []int64{9, 1000, 10000}[i%3])...)
		text := writtenPiece(x)
		same(t, "text", impl.PieceText(x), text)
		read, ok := impl.ReadPiece(text)
		same(t, "piece of "+text, []any{read, ok}, []any{x, true})
	}
}

// noPieceTexts are texts without a piece.
var noPieceTexts = []string{
	"", " ", "  ", "   ", "a", "a ", "a  ", "a   ", "a    ", "1 2 3", " 1 2 3", "  1 2 3", "100 200 300 400", "vamp100200 100 200", "a,1,2,3", "a/1/2/3", "a-1-2-3", "a1 2 3",
	// A blank too many, or another byte than a blank.
	" a 1 2 3", "a  1 2 3", "a 1  2 3", "a 1 2  3", "a 1 2 3 ", "a 1 2 3  ", "a 1 2 ", "a 1 2 3 4 5 6 7 8 ", "\ta 1 2 3", "a\t1 2 3", "a 1\t2 3", "a 1 2 3\n", "a 1 2 3\x00", "a 1 2\n3", "a\n1 2 3", "a\u00a01 2 3", "a 1, 2, 3",
	// Signs, leading zeros and other numbers.
	"a +1 2 3", "a 1 +2 3", "a 1 2 +3", "a -1 2 3", "a 1 -2 3", "a 1 2 -3", "a -0 2 3", "a 01 2 3", "a 1 02 3", "a 1 2 03", "a 1 2 3 00", "a 0x1 2 3", "a 1e1 2 3", "a 1.0 2 3", "a 1 2 3.5", "a 1_0 2 3", "a ٣ 2 3", "a x 2 3", "a 1 2 x", "a 1 2 3 x", "a b 1 2 3", "a 1 2 3 b",
	// Names that are none.
	"A 1 2 3", "- 1 2 3", "-a 1 2 3", "1a 1 2 3", "1 2 3 4", "abcdefghijklm 1 2 3", "a/b 1 2 3", "a_b 1 2 3", "a. 1 2 3", "é 1 2 3", "\xff 1 2 3", "a\x00 1 2 3", "aB 1 2 3",
	// Too few edges and too many.
	"a 1", "a 1 2", "a 1 2 3 4 5 6 7 8 9", "a 1 2 3 4 5 6 7 8 9 10",
	// Edges that are out of range.
	"a 0 2 3", "a 1 0 3", "a 1 2 0", "a 1 2 3 0", "a 10001 2 3", "a 1 10001 3", "a 1 2 10001", "a 1 2 3 4 5 6 7 10001", "a 1 2 100000", "a 1 2 999999999999999999", "a 1 2 1000000000000000000", "a 1 2 9223372036854775808", "a 18446744073709551617 2 3", "a 4294967297 2 3",
}

func TestReadPieceOfOtherTexts(t *testing.T) {
	texts := append([]string{strings.Repeat(" ", 100000), "a" + strings.Repeat(" 1", 100000), "a 1 2 " + strings.Repeat("3", 100000), strings.Repeat("a", 100000) + " 1 2 3", "a 1 2 3" + strings.Repeat(" ", 100000)}, noPieceTexts...)
	for _, x := range badPieces() {
		texts = append(texts, writtenPiece(x))
	}
	for _, text := range texts {
		x, ok := impl.ReadPiece(text)
		same(t, fmt.Sprintf("piece of %.200q", text), []any{x, ok}, []any{impl.Piece{}, false})
	}
}

// TestReadPieceOfChangedTexts changes one byte of a text, and reads it as the document tells.
func TestReadPieceOfChangedTexts(t *testing.T) {
	var n numbers
	form := regexp.MustCompile(`^[a-z][a-z0-9-]{0,11}( ([1-9][0-9]{0,3}|10000)){3,8}$`)
	const others = "0123456789 -+aZ\n\x00"
	read := 0
	for i := range int64(6000) {
		text := pieceTexts[i%int64(len(pieceTexts))]
		if i%2 == 0 {
			text = writtenPiece(piece("x-1", lengthsOf(&n, 3+i%6, 1, 10000)...))
		}
		changed := changedText(&n, text, others)
		var want impl.Piece
		isPiece := form.MatchString(changed)
		if isPiece {
			want = piecesOf(changed)[0]
		}
		got, ok := impl.ReadPiece(changed)
		same(t, "piece of "+changed, []any{got, ok}, []any{want, isPiece})
		if ok {
			same(t, "text", impl.PieceText(got), changed)
			read++
		}
	}
	if read < 500 {
		t.Errorf("only %d of the changed texts are read", read)
	}
}
