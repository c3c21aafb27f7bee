package tests

import (
	"math"
	"slices"
	"strconv"
	"strings"
	"testing"

	"loop.example/g01043/impl"
)

func TestCodeNames(t *testing.T) {
	codes := []int64{impl.OK, impl.ErrInvalid, impl.ErrRange, impl.ErrNotFound, impl.ErrExists, impl.ErrFull, impl.ErrState, impl.ErrSyntax, impl.ErrFormat, impl.ErrClash, impl.ErrTight}
	names := strings.Split("ok invalid range not-found exists full state syntax format clash tight", " ")
	for i, code := range codes {
		same(t, "value of "+names[i], code, i)
		same(t, "name of "+names[i], impl.CodeName(int64(i)), names[i])
	}
	for _, code := range []int64{-1, 11, 12, 256, 1 << 32, -1 << 32, math.MinInt64, math.MaxInt64} {
		same(t, "name of "+strconv.FormatInt(code, 10), impl.CodeName(code), "")
	}
}

func TestLimits(t *testing.T) {
	same(t, "MaxName", impl.MaxName, 12)
	same(t, "LeastMeasure", impl.LeastMeasure, 500)
	same(t, "MaxMeasure", impl.MaxMeasure, 5000)
	same(t, "MaxFeet", impl.MaxFeet, 30)
}

func TestIsName(t *testing.T) {
	for _, s := range []string{"last-3", "a", "z", "a-", "a--", "a0", "z9", "a-0-z", "abcdefghijkl", "a12345678901", "a-----------"} {
		same(t, "is a name: "+s, impl.IsName(s), true)
	}
	for _, s := range []string{"", "-", "-a", "3", "3a", "A", "aB", "lasT", " a", "a ", "a b", "a_b", "a.b", "a/b", "a\x00", "a\xff", "\xff", "é", "aé", "a\u0301", "ａ", "a１", "a٣", "a–b", "abcdefghijklm", "a123456789012", strings.Repeat("a", 1000), "éééééé", "aééééé"} {
		same(t, "is no name: "+strconv.Quote(s), impl.IsName(s), false)
	}
}

func TestIsNameOfEachByte(t *testing.T) {
	const letters, others = "abcdefghijklmnopqrstuvwxyz", "0123456789-"
	for b := range 256 {
		c := string([]byte{byte(b)})
		same(t, "first "+strconv.Quote(c), impl.IsName(c), strings.Contains(letters, c))
		same(t, "second "+strconv.Quote(c), impl.IsName("x"+c), strings.Contains(letters+others, c))
		same(t, "twelfth "+strconv.Quote(c), impl.IsName("x234567890y"+c), strings.Contains(letters+others, c))
	}
}

func TestDecimal(t *testing.T) {
	want := map[int64]string{0: "0", 1: "1", -1: "-1", 9: "9", 10: "10", -10: "-10", 100: "100", 2500: "2500", 1_000_000: "1000000",
		math.MaxInt64: "9223372036854775807", math.MinInt64: "-9223372036854775808", math.MinInt64 + 1: "-9223372036854775807", math.MaxInt64 - 1: "9223372036854775806"}
	for n, s := range want {
		same(t, "decimal of "+s, impl.Decimal(n), s)
	}
}

func TestReadDecimal(t *testing.T) {
	want := map[string]int64{"0": 0, "1": 1, "-1": -1, "9": 9, "10": 10, "-10": -10, "2500": 2500, "100000000000000000": 1e17, "-100000000000000000": -1e17,
		"999999999999999999": 999999999999999999, "-999999999999999999": -999999999999999999}
	for s, n := range want {
		got, ok := impl.ReadDecimal(s)
		same(t, "number of "+s, got, n)
		same(t, "there is a number of "+s, ok, true)
	}
}

func TestReadDecimalOfOthers(t *testing.T) {
	others := []string{"", "-", "--1", "+", "+1", "+0", "-0", "00", "01", "-01", "007", " 1", "1 ", " ", "1 2", "- 1", "1-", "1.0", "1.", ".5", "1e3", "0x10", "x", "1a", "a1", "1_000", "1,000", "1\n", "1\x00", "\xff", "1\xff", "٣", "１", "−1",
		"1000000000000000000", "-1000000000000000000", "9223372036854775807", "-9223372036854775808", "9223372036854775808", "18446744073709551617", "000000000000000001", "0000000000000000001",
		strings.Repeat("9", 400), strings.Repeat("0", 400), "-" + strings.Repeat("9", 400)}
	for _, s := range others {
		got, ok := impl.ReadDecimal(s)
		same(t, "number of "+strconv.Quote(s), got, 0)
		same(t, "there is a number of "+strconv.Quote(s), ok, false)
	}
}

func TestReadDecimalReadsDecimal(t *testing.T) {
	var n numbers
	const most = 999_999_999_999_999_999
	for i := range 2000 {
		x := n.from(-1<<30, 1<<30) * n.from(0, 1<<30) >> (i % 60)
		got, ok := impl.ReadDecimal(impl.Decimal(x))
		if x < -most || x > most {
			same(t, "no number of "+strconv.FormatInt(x, 10), []any{got, ok}, []any{int64(0), false})
			continue
		}
		same(t, "number of "+strconv.FormatInt(x, 10), []any{got, ok}, []any{x, true})
	}
}

func TestSplitWords(t *testing.T) {
	want := map[string][]string{"": nil, " ": nil, "    ": nil, "a": {"a"}, " a": {"a"}, "a ": {"a"}, "a b": {"a", "b"}, "  upper  calf ; sole ": {"upper", "calf", ";", "sole"},
		"a  a": {"a", "a"}, "b a": {"b", "a"}, "a\tb\nc\rd": {"a\tb\nc\rd"}, "a\u00a0b c\u3000d": {"a\u00a0b", "c\u3000d"}, "\x00 \xff\xfe é": {"\x00", "\xff\xfe", "é"}, "\xe2 \x82": {"\xe2", "\x82"}}
	for s, words := range want {
		same(t, "words of "+strconv.Quote(s), impl.SplitWords(s), words)
	}
}

func TestSplitWordsLosesOnlyBlanks(t *testing.T) {
	var n numbers
	for range 500 {
		var text []byte
		for range n.from(0, 20) {
			text = append(text, " \tab\xff\xc3"[n.from(0, 5)])
		}
		words := impl.SplitWords(string(text))
		same(t, "words of "+strconv.Quote(string(text)), strings.Join(words, ""), strings.ReplaceAll(string(text), " ", ""))
		for i, w := range words {
			if w == "" || strings.Contains(w, " ") {
				t.Errorf("word %d of %q is %q", i, text, w)
			}
		}
		parts := slices.DeleteFunc(strings.Split(string(text), " "), func(p string) bool { return p == "" })
		same(t, "parts of "+strconv.Quote(string(text)), words, parts)
	}
}
