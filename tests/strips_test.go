package tests

import (
	"fmt"
	"regexp"
	"strings"
	"testing"

	"loop.example/g01043/impl"
)

// stripTexts are the texts of goodStrips.
var stripTexts = []string{"1+0(0,0)", "5000+200(200,200)", "400+30(12,8)", "300+0(5,5)", "500+10(0,0)", "1+200(0,0)", "1+0(200,0)", "1+0(0,200)", "5000+0(0,0)", "2500+1(1,1)", "400+0(200,200)", "7+1(0,200)"}

// writtenStrip writes an edge that need not be valid.
func writtenStrip(x impl.Strip) string {
	return fmt.Sprintf("%d+%d(%d,%d)", x.Length, x.Allow, x.Left, x.Right)
}

func TestStripText(t *testing.T) {
	for i, x := range goodStrips() {
		same(t, "text", impl.StripText(x), stripTexts[i])
		read, ok := impl.ReadStrip(stripTexts[i])
		same(t, "edge of "+stripTexts[i], []any{read, ok}, []any{x, true})
	}
	for _, x := range badStrips() {
		same(t, fmt.Sprint("text of ", x), impl.StripText(x), "")
	}
}

func TestTextsOfManyStrips(t *testing.T) {
	var n numbers
	for _, x := range stripsOf(&n, 3000, 5000) {
		text := writtenStrip(x)
		same(t, "text", impl.StripText(x), text)
		read, ok := impl.ReadStrip(text)
		same(t, "edge of "+text, []any{read, ok}, []any{x, true})
	}
}

// noStripTexts are texts without an edge.
var noStripTexts = []string{
	"", " ", "+(,)", "+", "(", ",", ")", "400", "400+", "400+30", "400+30(", "400+30(12", "400+30(12,", "400+30(12,8", "400+30)", "400(12,8)", "400+(12,8)", "400+30()", "400+30(12)", "+30(12,8)", "400+30(,8)", "400+30(12,)", "400+30(,)", "400 30 12 8", "400/30/12/8", "400,30,12,8",
	// A part too many.
	"400+30(12,8,0)", "400+30(12,8)0", "400+30(12,8)+", "400+30(12,8))", "400+30(12,8)(12,8)", "400+30(12,8),", "400+30+30(12,8)", "400+30((12,8)", "400+30(12,,8)", "400++30(12,8)", "0+400+30(12,8)", "(400+30(12,8)", "400+30(12,8)400+30(12,8)", "400+30(12,8) 400+30(12,8)",
	// Marks in another order, and other marks.
	"400(30+12,8)", "400+30,12(8)", "400,30(12+8)", "400+30)12,8(", "400)30(12,8+", "(400+30,12)8", "400+30(12)8,", "400+30(12.8)", "400+30(12;8)", "400+30[12,8]", "400+30{12,8}", "400-30(12,8)", "400*30(12,8)", "400+30(12/8)", "400+30(12+8)", "400+30<12,8>", "400＋30(12,8)",
	// Signs.
	"+400+30(12,8)", "400++30(12,8)", "400+30(+12,8)", "400+30(12,+8)", "-400+30(12,8)", "400+-30(12,8)", "400+30(-12,8)", "400+30(12,-8)", "-0+30(12,8)", "400+-0(12,8)", "400+30(-0,8)", "400+30(12,-0)", "400+30(-1,8)",
	// Leading zeros, and other numbers.
	"0400+30(12,8)", "400+030(12,8)", "400+30(012,8)", "400+30(12,08)", "400+00(12,8)", "400+0(00,8)", "400+0(0,00)", "0x1+30(12,8)", "4e2+30(12,8)", "400.0+30(12,8)", "400+30(12,8.0)", "4_0+30(12,8)", "٤+30(12,8)", "x+30(12,8)", "400+x(12,8)", "400+30(x,8)", "400+30(12,x)",
	// A blank too many, or another byte.
	" 400+30(12,8)", "400 +30(12,8)", "400+ 30(12,8)", "400+30 (12,8)", "400+30( 12,8)", "400+30(12 ,8)", "400+30(12, 8)", "400+30(12,8 )", "400+30(12,8) ", "4 00+30(12,8)", "400+30(12,8)\n", "400+30(12,8)\x00", "\x00400+30(12,8)", "400+30(12,\t8)", "400+30(12,8)\xff", "400+30(12,\u00a08)",
	// Numbers that are out of range.
	"0+30(12,8)", "5001+30(12,8)", "400+201(12,8)", "400+30(201,8)", "400+30(12,201)", "0+0(0,0)", "5001+0(0,0)", "400+0(201,0)", "400+0(0,201)", "10000+30(12,8)", "400+1000(12,8)", "400+30(1000,8)", "400+30(12,1000)", "999999999999999999+30(12,8)", "1000000000000000000+30(12,8)", "9223372036854775808+30(12,8)", "18446744073709551617+30(12,8)", "4294967297+30(12,8)", "400+4294967297(12,8)", "400+18446744073709551616(12,8)", "400+30(4294967296,8)", "400+30(12,4294967296)",
}

func TestReadStripOfOtherTexts(t *testing.T) {
	texts := append([]string{strings.Repeat("+", 100000), strings.Repeat("4", 100000) + "+30(12,8)", "400+30(12,8)" + strings.Repeat(")", 100000), "400+30(12," + strings.Repeat("0", 100000) + "8)", strings.Repeat("400+30(12,8)", 10000), strings.Repeat(" ", 100000)}, noStripTexts...)
	for _, x := range badStrips() {
		texts = append(texts, writtenStrip(x))
	}
	for _, text := range texts {
		x, ok := impl.ReadStrip(text)
		same(t, fmt.Sprintf("edge of %.200q", text), []any{x, ok}, []any{impl.Strip{}, false})
	}
}

// TestReadStripOfChangedTexts changes one byte of a text, and reads it as the document tells.
func TestReadStripOfChangedTexts(t *testing.T) {
	var n numbers
	const added = `(0|[1-9][0-9]?|1[0-9][0-9]|200)`
	form := regexp.MustCompile(`^([1-9][0-9]{0,2}|[1-4][0-9]{3}|5000)\+` + added + `\(` + added + `,` + added + `\)$`)
	const others = "0123456789+(,)- Z\n\x00"
	read := 0
	for i := range int64(8000) {
		text := stripTexts[i%int64(len(stripTexts))]
		if i%2 == 0 {
			text = writtenStrip(stripsOf(&n, 1, []int64{9, 500, 5000}[i/2%3])[0])
		}
		changed := changedText(&n, text, others)
		var want impl.Strip
		isStrip := form.MatchString(changed)
		if isStrip {
			want = strips(changed)[0]
		}
		got, ok := impl.ReadStrip(changed)
		same(t, "edge of "+changed, []any{got, ok}, []any{want, isStrip})
		if ok {
			same(t, "text", impl.StripText(got), changed)
			read++
		}
	}
	if read < 500 {
		t.Errorf("only %d of the changed texts are read", read)
	}
}
