package impl

import (
	"cmp"
	"slices"
	"strings"
)

// Limits of feet.
const (
	LeastMeasure = 500
	MaxMeasure   = 5000
	MaxFeet      = 30

	// maxDay is the last day on which a foot may be measured, maxAsked the last one for which a length may be asked.
	maxDay   = 10000
	maxAsked = 20000
)

// slash separates the measures of a foot, and the numbers of a grade.
const slash = "/"

// Foot is a foot: its length and its girths at the ball, at the instep and at the heel.
type Foot struct {
	Length int64
	Ball   int64
	Instep int64
	Heel   int64
}

// Fraction is a rational number.
type Fraction struct {
	Num int64
	Den int64
}

// measures are the measures of a foot in the order of its fields.
type measures [4]int64

func measuresOf(f Foot) measures {
	return measures{f.Length, f.Ball, f.Instep, f.Heel}
}

func (m measures) foot() Foot {
	return Foot{Length: m[0], Ball: m[1], Instep: m[2], Heel: m[3]}
}

// ValidFoot reports whether f is valid.
func ValidFoot(f Foot) bool {
	for _, x := range measuresOf(f) {
		if x < LeastMeasure || x > MaxMeasure {
			return false
		}
	}
	return true
}

// ValidFeet reports whether list is valid.
func ValidFeet(list []Foot) bool {
	if len(list) > MaxFeet {
		return false
	}
	for _, f := range list {
		if !ValidFoot(f) {
			return false
		}
	}
	return true
}

// feetError returns the first error of a list of feet, and of how far they may be apart.
func feetError(list []Foot, most int64) int64 {
	switch {
	case !ValidFeet(list):
		return ErrInvalid
	case most < 0 || most > MaxMeasure:
		return ErrRange
	case len(list) == 0:
		return ErrNotFound
	}
	return OK
}

// columnOf returns one measure, that with the index k, of all feet.
func columnOf(list []Foot, k int) []int64 {
	column := make([]int64, 0, len(list))
	for _, f := range list {
		column = append(column, measuresOf(f)[k])
	}
	return column
}

// middle returns the middle of a list that is not empty.
func middle[T cmp.Ordered](list []T) T {
	sorted := slices.Clone(list)
	slices.Sort(sorted)
	return sorted[(len(sorted)-1)/2]
}

// middleOf returns the middle of a list that is not empty; it need not be one of the feet.
func middleOf(list []Foot) Foot {
	var m measures
	for k := range m {
		m[k] = middle(columnOf(list, k))
	}
	return m.foot()
}

// distance returns the absolute difference of two measures.
func distance(a, b int64) int64 { return max(a, b) - min(a, b) }

// isFar reports whether a is far from b. Both are valid, so that their differences do not overflow.
func isFar(a, b Foot, most int64) bool {
	m, o := measuresOf(a), measuresOf(b)
	for k := range m {
		if distance(m[k], o[k]) > most {
			return true
		}
	}
	return false
}

// MiddleFoot returns the middle of feet.
func MiddleFoot(list []Foot) (Foot, int64) {
	if code := feetError(list, 0); code != OK {
		return Foot{}, code
	}
	return middleOf(list), OK
}

// FarFeet returns the feet that are far from the middle.
func FarFeet(list []Foot, most int64) ([]int64, int64) {
	if code := feetError(list, most); code != OK {
		return nil, code
	}
	centre := middleOf(list)
	var far []int64
	for i, f := range list {
		if isFar(f, centre, most) {
			far = append(far, int64(i))
		}
	}
	return far, OK
}

// JoinFeet returns the middle of feet without those that are far off.
func JoinFeet(list []Foot, most int64) (Foot, int64) {
	if code := feetError(list, most); code != OK {
		return Foot{}, code
	}
	centre := middleOf(list)
	var near []Foot
	for _, f := range list {
		if !isFar(f, centre, most) {
			near = append(near, f)
		}
	}
	if len(near) == 0 {
		return Foot{}, ErrClash
	}
	return middleOf(near), OK
}

// LargerFoot returns the greater measures of two feet.
func LargerFoot(a, b Foot) (Foot, int64) {
	if !ValidFoot(a) || !ValidFoot(b) {
		return Foot{}, ErrInvalid
	}
	m, o := measuresOf(a), measuresOf(b)
	for k := range m {
		m[k] = max(m[k], o[k])
	}
	return m.foot(), OK
}

// DifferenceOf returns by how much the measures of two feet differ.
func DifferenceOf(a, b Foot) ([]int64, int64) {
	if !ValidFoot(a) || !ValidFoot(b) {
		return nil, ErrInvalid
	}
	m, o := measuresOf(a), measuresOf(b)
	differences := make([]int64, len(m))
	for k := range m {
		differences[k] = o[k] - m[k]
	}
	return differences, OK
}

// SpreadOf returns how far measures are apart.
func SpreadOf(list []Foot) (Foot, int64) {
	if code := feetError(list, 0); code != OK {
		return Foot{}, code
	}
	var spread measures
	for k := range spread {
		column := columnOf(list, k)
		spread[k] = slices.Max(column) - slices.Min(column)
	}
	return spread.foot(), OK
}

// line is the straight line with the least sum of squares: its slope is rise / run, where run is positive, and it goes through the mean of all days and lengths.
type line struct {
	count, days, lengths int64
	rise, run            int64
}

// lineThrough returns the line of feet, of which there are at least two; as no days are equal, its run is not 0.
func lineThrough(days []int64, list []Foot) line {
	var products, squares int64
	l := line{count: int64(len(days))}
	for i, d := range days {
		l.days += d
		l.lengths += list[i].Length
		products += d * list[i].Length
		squares += d * d
	}
	l.rise = l.count*products - l.days*l.lengths
	l.run = l.count*squares - l.days*l.days
	return l
}

// lengthOn returns the nearest integer of the value on a day. With MaxFeet feet, no product is greater than 10^17.
func (l line) lengthOn(day int64) int64 {
	return nearest(l.lengths*l.run+l.rise*(l.count*day-l.days), l.count*l.run)
}

// areDays reports whether days are as GrowthOf and LengthOn need them, count of them.
func areDays(days []int64, count int) bool {
	return len(days) == count && areWithin(days, 0, maxDay) && increases(days)
}

// increases reports whether each number of a list is greater than the one before it.
func increases(list []int64) bool {
	for i := 1; i < len(list); i++ {
		if list[i] <= list[i-1] {
			return false
		}
	}
	return true
}

// growthError returns the first error of feet on some days, and of a day that is asked for.
func growthError(days []int64, list []Foot, day int64) int64 {
	switch {
	case !ValidFeet(list):
		return ErrInvalid
	case !areDays(days, len(list)) || day < 0 || day > maxAsked:
		return ErrRange
	case len(list) < 2:
		return ErrNotFound
	}
	return OK
}

// GrowthOf returns by how much feet grow in a day.
func GrowthOf(days []int64, list []Foot) (Fraction, int64) {
	if code := growthError(days, list, 0); code != OK {
		return Fraction{}, code
	}
	l := lineThrough(days, list)
	return lowest(l.rise, l.run), OK
}

// LengthOn returns the length of a foot on a later day.
func LengthOn(days []int64, list []Foot, day int64) (int64, int64) {
	if code := growthError(days, list, day); code != OK {
		return 0, code
	}
	return lineThrough(days, list).lengthOn(day), OK
}

// commonDivisor returns the greatest common divisor of two numbers that are not negative, the other one if one is 0.
func commonDivisor(a, b int64) int64 {
	for b != 0 {
		a, b = b, a%b
	}
	return a
}

// lowest returns num / den in lowest terms; den is positive.
func lowest(num, den int64) Fraction {
	d := commonDivisor(max(num, -num), den)
	return Fraction{Num: num / d, Den: den / d}
}

// nearest returns the nearest integer of num / den, the greater one if two are nearest; den is positive.
func nearest(num, den int64) int64 {
	return floorOf(2*num+den, 2*den)
}

// floorOf returns the greatest integer that is not greater than num / den; den is positive.
func floorOf(num, den int64) int64 {
	whole := num / den
	// The division of Go rounds towards 0.
	if num%den < 0 {
		whole--
	}
	return whole
}

// separatedText returns numbers in decimal with a separator between them.
func separatedText(separator string, numbers ...int64) string {
	var text strings.Builder
	for k, x := range numbers {
		if k > 0 {
			text.WriteString(separator)
		}
		text.WriteString(Decimal(x))
	}
	return text.String()
}

// readSeparated replaces numbers by those of a text, and reports whether the text has just as many.
func readSeparated(s, separator string, numbers []int64) bool {
	// One part more than there are numbers, so that a longer text is found out without splitting all of it.
	parts := strings.SplitN(s, separator, len(numbers)+1)
	if len(parts) != len(numbers) {
		return false
	}
	for k, part := range parts {
		x, ok := ReadDecimal(part)
		if !ok {
			return false
		}
		numbers[k] = x
	}
	return true
}

// FootText returns the text form of a foot.
func FootText(f Foot) string {
	if !ValidFoot(f) {
		return ""
	}
	m := measuresOf(f)
	return separatedText(slash, m[:]...)
}

// ReadFoot returns the foot with a text form.
func ReadFoot(s string) (Foot, bool) {
	var m measures
	if !readSeparated(s, slash, m[:]) {
		return Foot{}, false
	}
	f := m.foot()
	if !ValidFoot(f) {
		return Foot{}, false
	}
	return f, true
}
