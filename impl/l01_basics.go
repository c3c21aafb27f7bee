package impl

import (
	"strconv"
	"strings"
)

// Codes.
const (
	OK = iota
	ErrInvalid
	ErrRange
	ErrNotFound
	ErrExists
	ErrFull
	ErrState
	ErrSyntax
	ErrFormat
	ErrClash
	ErrTight
)

// Limits of texts.
const (
	MaxName = 12

	// maxRead is the greatest number of 18 digits.
	maxRead = 999_999_999_999_999_999
)

var codeNames = [...]string{
	OK:          "ok",
	ErrInvalid:  "invalid",
	ErrRange:    "range",
	ErrNotFound: "not-found",
	ErrExists:   "exists",
	ErrFull:     "full",
	ErrState:    "state",
	ErrSyntax:   "syntax",
	ErrFormat:   "format",
	ErrClash:    "clash",
	ErrTight:    "tight",
}

// CodeName returns the name of a code.
func CodeName(code int64) string {
	if code < 0 || code >= int64(len(codeNames)) {
		return ""
	}
	return codeNames[code]
}

// IsName reports whether s is a name.
func IsName(s string) bool {
	if len(s) < 1 || len(s) > MaxName {
		return false
	}
	for i, r := range s {
		if !isSmallLetter(r) && (i == 0 || !isDigitOrHyphen(r)) {
			return false
		}
	}
	return true
}

func isSmallLetter(r rune) bool { return 'a' <= r && r <= 'z' }

func isDigitOrHyphen(r rune) bool { return '0' <= r && r <= '9' || r == '-' }

// Decimal returns the decimal form of a number.
func Decimal(n int64) string { return strconv.FormatInt(n, 10) }

// ReadDecimal returns the number with a decimal form.
func ReadDecimal(s string) (int64, bool) {
	n, err := strconv.ParseInt(s, 10, 64)
	if err != nil || n < -maxRead || n > maxRead {
		return 0, false
	}
	// ParseInt also accepts a plus sign, leading zeros and a minus sign before 0.
	if Decimal(n) != s {
		return 0, false
	}
	return n, true
}

// SplitWords returns the parts of a text without blanks.
func SplitWords(s string) []string {
	words := strings.FieldsFunc(s, isBlank)
	for i, w := range words {
		// A copy, so that a short word does not keep a long text in memory.
		words[i] = strings.Clone(w)
	}
	return words
}

func isBlank(r rune) bool { return r == ' ' }
