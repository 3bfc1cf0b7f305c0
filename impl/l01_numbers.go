// Package impl lets planets, moons and ships go around in single precision.
//
// Products are converted to the type that they have already: without this, Go
// may fuse a product and a sum into one operation that is rounded only once.
package impl

import (
	"math"
	"strconv"
	"strings"
)

// Limits of chapter 1.
const (
	MaxNumbers = 256
	MaxValue   = 1000000000000000
	MaxItems   = 64
	CheckSize  = 65003
)

const (
	maxBits      = 1<<32 - 1
	nanBits      = 0x7fc00000
	digitsOfBits = 8
	maxLetters   = 8
	emptyText    = "none"
	comma        = ","
)

// Vector has three numbers.
type Vector struct {
	X float32
	Y float32
	Z float32
}

// vectorBits stands for a vector where two are compared: == of the vectors
// would take both zeros for one, and no not-a-number for another.
type vectorBits struct {
	X, Y, Z int64
}

// fullTurn is a function because the package level has no floats.
func fullTurn() float64 { return 6.283185307179586 }

// SameNumber reports whether two numbers are the same.
func SameNumber(a, b float32) bool { return BitsOf(a) == BitsOf(b) }

// IsFinite reports whether x is finite.
func IsFinite(x float32) bool { return isFiniteWide(float64(x)) }

func isFiniteWide(x float64) bool { return !math.IsNaN(x) && !math.IsInf(x, 0) }

func isAtLeastZero(x float32) bool { return x >= 0 && IsFinite(x) }

func isAboveZero(x float32) bool { return x > 0 && IsFinite(x) }

// finiteNumber fails where a function would return a number that is not finite.
func finiteNumber(x float32) (float32, bool) {
	if !IsFinite(x) {
		return 0, false
	}
	return x, true
}

// BitsOf returns the bits of a number.
func BitsOf(x float32) int64 {
	if math.IsNaN(float64(x)) {
		return nanBits
	}
	return int64(math.Float32bits(x))
}

// FromBits returns the number with the given bits.
func FromBits(n int64) (float32, bool) {
	if n < 0 || n > maxBits {
		return 0, false
	}
	return math.Float32frombits(uint32(n)), true
}

// NarrowNumber returns the nearest 32-bit number.
func NarrowNumber(x float64) float32 { return float32(x) }

// IsSubnormal reports whether x is subnormal.
func IsSubnormal(x float32) bool {
	return x != 0 && math.Abs(float64(x)) < 0x1p-126
}

// FlushNumber returns x, but a zero if it is subnormal.
func FlushNumber(x float32) float32 {
	if IsSubnormal(x) {
		return float32(math.Copysign(0, float64(x)))
	}
	return x
}

// SameComplex reports whether two complex numbers are the same.
func SameComplex(a, b complex64) bool {
	return SameNumber(real(a), real(b)) && SameNumber(imag(a), imag(b))
}

// IsFiniteComplex reports whether both parts are finite.
func IsFiniteComplex(x complex64) bool { return IsFinite(real(x)) && IsFinite(imag(x)) }

// NarrowComplex returns a number with narrowed parts.
func NarrowComplex(x complex128) complex64 {
	return complex(float32(real(x)), float32(imag(x)))
}

// MulComplex returns a product.
func MulComplex(x, y complex64) complex64 { return NarrowComplex(wideProduct(x, y)) }

// wideProduct multiplies part by part because the product of two complex
// numbers in Go need not round each product of parts on its own.
func wideProduct(x, y complex64) complex128 {
	a, b := float64(real(x)), float64(imag(x))
	c, d := float64(real(y)), float64(imag(y))
	return complex(float64(a*c)-float64(b*d), float64(a*d)+float64(b*c))
}

// ScaleComplex returns a product with a number.
func ScaleComplex(x complex64, by float32) complex64 {
	return complex(float32(real(x)*by), float32(imag(x)*by))
}

// ConjugateOf returns the conjugate.
func ConjugateOf(x complex64) complex64 { return complex(real(x), -imag(x)) }

// PowerOf returns the power.
func PowerOf(x complex64) float32 { return float32(widePower(x)) }

func widePower(x complex64) float64 {
	a, b := float64(real(x)), float64(imag(x))
	return float64(a*a) + float64(b*b)
}

// LongOf returns the root of the power.
func LongOf(x complex64) float32 { return float32(math.Sqrt(widePower(x))) }

// QuotientOf returns a quotient.
func QuotientOf(x, y complex64) complex64 {
	product := wideProduct(x, ConjugateOf(y))
	power := widePower(y)
	return NarrowComplex(complex(real(product)/power, imag(product)/power))
}

// RootNumber returns the square root.
func RootNumber(x float32) float32 { return float32(math.Sqrt(float64(x))) }

// partOfTurn returns what is left of some turns without the whole ones: a
// not-a-number if they are not finite, and +0 if they are too large to have
// places behind the point.
func partOfTurn(turns float64) float64 {
	f := turns
	// A whole of zero is left out because -0 less -0 would be +0.
	if whole := math.Trunc(turns); whole != 0 {
		f -= whole
	}
	if f < 0 {
		f += 1
	}
	return f
}

func sineOf(turns float64) float64 {
	f := partOfTurn(turns)
	turned := f >= 0.5
	if turned {
		f -= 0.5
	}
	if f > 0.25 {
		f = 0.5 - f
	}
	z := float64(f * fullTurn())
	u := float64(z * z)
	p := 1.0
	for k := 8; k >= 1; k-- {
		p = 1 - float64(u*p)/float64(2*k*(2*k+1))
	}
	sine := float64(z * p)
	if turned {
		return -sine
	}
	return sine
}

// SineTurns returns the sine of some turns.
func SineTurns(x float32) float32 { return float32(sineOf(float64(x))) }

// PhasorOf returns a point of the unit circle.
func PhasorOf(turns float64) complex64 {
	f := partOfTurn(turns)
	quarters := 0
	for f >= 0.25 {
		f -= 0.25
		quarters++
	}
	c, s := sineOf(0.25-f), sineOf(f)
	// Opposites are taken from 0 so that a zero stays +0.
	switch quarters {
	case 1:
		return NarrowComplex(complex(0-s, c))
	case 2:
		return NarrowComplex(complex(0-c, 0-s))
	case 3:
		return NarrowComplex(complex(s, 0-c))
	}
	return NarrowComplex(complex(c, s))
}

// AngleOf returns the angle in turns.
func AngleOf(x complex64) float32 { return AngleTurns(imag(x), real(x)) }

// AngleTurns returns the angle of a point.
func AngleTurns(y, x float32) float32 { return float32(angleOf(float64(y), float64(x))) }

func angleOf(y, x float64) float64 {
	if !isFiniteWide(y) || !isFiniteWide(x) {
		return math.NaN()
	}
	if y == 0 && x == 0 {
		return 0
	}
	a, b := math.Abs(y), math.Abs(x)
	angle := angleOfSlope(min(a, b) / max(a, b))
	if a > b {
		angle = 0.25 - angle
	}
	if x < 0 {
		angle = 0.5 - angle
	}
	if y < 0 {
		return -angle
	}
	return angle
}

// angleOfSlope takes an eighth of the angle, where the series ends soon.
func angleOfSlope(slope float64) float64 {
	t := slope
	for range 3 {
		t = t / (1 + math.Sqrt(1+float64(t*t)))
	}
	u := float64(t * t)
	p := 0.0
	for k := 15; k >= 1; k -= 2 {
		p = 1/float64(k) - float64(u*p)
	}
	return float64(8*float64(t*p)) / fullTurn()
}

// TenthsOf returns tenths of decibels.
func TenthsOf(power float32) (int64, bool) {
	if !IsFinite(power) || power <= 0 {
		return 0, false
	}
	tenths := float64(logOf(float64(power)) * 43.42944819032518)
	return int64(math.Floor(tenths + 0.5)), true
}

// LogNumber returns the logarithm.
func LogNumber(x float32) float32 { return float32(logOf(float64(x))) }

func logOf(x float64) float64 {
	if math.IsNaN(x) || x < 0 {
		return math.NaN()
	}
	if x == 0 {
		return math.Inf(-1)
	}
	if math.IsInf(x, 1) {
		return x
	}
	near, halvings := halvedToOne(x)
	s := (near - 1) / (near + 1)
	u := float64(s * s)
	q := 0.0
	for k := 25; k >= 1; k -= 2 {
		q = 1/float64(k) + float64(u*q)
	}
	return float64(2*float64(s*q)) + float64(float64(halvings)*0.6931471805599453)
}

// halvedToOne halves or doubles x, finite and greater than 0, until it is near
// 1, and returns how often it was halved, less how often doubled.
func halvedToOne(x float64) (float64, int) {
	halvings := 0
	for x >= 1.5 {
		x /= 2
		halvings++
	}
	for x < 0.75 {
		x *= 2
		halvings--
	}
	return x, halvings
}

// ExpNumber returns e to a power.
func ExpNumber(x float32) float32 { return float32(expOf(float64(x))) }

func expOf(x float64) float64 {
	if x > 200 {
		return math.Inf(1)
	}
	if x < -200 {
		return 0
	}
	t := x / 256
	p := 1.0
	for k := 12; k >= 1; k-- {
		p = 1 + float64(t*p)/float64(k)
	}
	for range 8 {
		p = float64(p * p)
	}
	return p
}

// summand is what lists that are added hold.
type summand interface {
	float32 | complex64
}

func sumOf[T summand](list []T) (T, bool) {
	if len(list) > MaxNumbers {
		return 0, false
	}
	var sum T
	for _, x := range list {
		sum += x
	}
	return sum, true
}

func dotOf[T summand](a, b []T, product func(T, T) T) (T, bool) {
	if len(a) > MaxNumbers || len(a) != len(b) {
		return 0, false
	}
	var sum T
	for i, x := range a {
		sum += product(x, b[i])
	}
	return sum, true
}

// SumNumbers returns the sum from left to right.
func SumNumbers(list []float32) (float32, bool) { return sumOf(list) }

// DotNumbers returns the sum of products.
func DotNumbers(a, b []float32) (float32, bool) { return dotOf(a, b, productOf) }

func productOf(x, y float32) float32 { return float32(x * y) }

// SumComplex returns the sum from left to right.
func SumComplex(list []complex64) (complex64, bool) { return sumOf(list) }

// DotComplex returns the sum of products.
func DotComplex(a, b []complex64) (complex64, bool) { return dotOf(a, b, MulComplex) }

// DotConjugate returns the sum of products with conjugates.
func DotConjugate(a, b []complex64) (complex64, bool) { return dotOf(a, b, conjugateProduct) }

func conjugateProduct(x, y complex64) complex64 { return MulComplex(ConjugateOf(x), y) }

// PowersOf returns the sum of powers.
func PowersOf(list []complex64) (float32, bool) {
	if len(list) > MaxNumbers {
		return 0, false
	}
	sum := 0.0
	for _, x := range list {
		sum += widePower(x)
	}
	return float32(sum), true
}

// AddVectors returns the sums of numbers.
func AddVectors(a, b Vector) Vector {
	return Vector{X: a.X + b.X, Y: a.Y + b.Y, Z: a.Z + b.Z}
}

// LessVectors returns the differences of numbers.
func LessVectors(a, b Vector) Vector {
	return Vector{X: a.X - b.X, Y: a.Y - b.Y, Z: a.Z - b.Z}
}

// ScaleVector returns the products with a number.
func ScaleVector(v Vector, by float32) Vector {
	return Vector{X: float32(v.X * by), Y: float32(v.Y * by), Z: float32(v.Z * by)}
}

// InnerOf returns the sum of products.
func InnerOf(a, b Vector) float32 {
	return float32(a.X*b.X) + float32(a.Y*b.Y) + float32(a.Z*b.Z)
}

// CrossOf returns the vector across two others.
func CrossOf(a, b Vector) Vector {
	return Vector{
		X: float32(a.Y*b.Z) - float32(a.Z*b.Y),
		Y: float32(a.Z*b.X) - float32(a.X*b.Z),
		Z: float32(a.X*b.Y) - float32(a.Y*b.X),
	}
}

// SizeOfVector returns the length of a vector.
func SizeOfVector(v Vector) float32 { return RootNumber(InnerOf(v, v)) }

// BetweenVectors returns a vector between two others.
func BetweenVectors(a, b Vector, share float32) Vector {
	return AddVectors(a, ScaleVector(LessVectors(b, a), share))
}

// SameVector reports whether two vectors are the same.
func SameVector(a, b Vector) bool { return bitsOfVector(a) == bitsOfVector(b) }

func bitsOfVector(v Vector) vectorBits {
	return vectorBits{X: BitsOf(v.X), Y: BitsOf(v.Y), Z: BitsOf(v.Z)}
}

func isFiniteVector(v Vector) bool { return IsFinite(v.X) && IsFinite(v.Y) && IsFinite(v.Z) }

// finiteVector fails where a function would return a number that is not finite.
func finiteVector(v Vector) (Vector, bool) {
	if !isFiniteVector(v) {
		return Vector{}, false
	}
	return v, true
}

func oppositeVector(v Vector) Vector { return Vector{X: -v.X, Y: -v.Y, Z: -v.Z} }

// VectorText returns the text of a vector.
func VectorText(v Vector) string {
	return joinTexts([]float32{v.X, v.Y, v.Z}, comma, numberText)
}

// ReadVector returns the vector with the given text.
func ReadVector(s string) (Vector, bool) {
	list, ok := readSome(s, 3)
	if !ok {
		return Vector{}, false
	}
	return Vector{X: list[0], Y: list[1], Z: list[2]}, true
}

// readSome fails for texts of more or less than the told count of numbers.
func readSome(s string, count int) ([]float32, bool) {
	list, ok := ReadNumbers(s)
	if !ok || len(list) != count {
		return nil, false
	}
	return list, true
}

// joinTexts returns the texts of all values with a separator between them.
func joinTexts[T any](list []T, separator string, textOf func(T) string) string {
	if len(list) == 0 {
		return emptyText
	}
	parts := make([]string, len(list))
	for i, value := range list {
		parts[i] = textOf(value)
	}
	return strings.Join(parts, separator)
}

// splitText returns the values whose joinTexts is s, at most limit ones.
func splitText[T any](s, separator string, limit int, read func(string) (T, bool)) ([]T, bool) {
	if s == emptyText {
		return nil, true
	}
	count := strings.Count(s, separator) + 1
	if count > limit {
		return nil, false
	}
	list := make([]T, 0, count)
	for _, part := range strings.Split(s, separator) {
		value, ok := read(part)
		if !ok {
			return nil, false
		}
		list = append(list, value)
	}
	return list, true
}

// NumbersText returns the text of numbers.
func NumbersText(list []float32) (string, bool) {
	if len(list) > MaxNumbers {
		return "", false
	}
	return joinTexts(list, comma, numberText), true
}

// ReadNumbers returns the numbers with the given text.
func ReadNumbers(s string) ([]float32, bool) { return splitText(s, comma, MaxNumbers, readNumber) }

func numberText(x float32) string {
	digits := strconv.FormatInt(BitsOf(x), 16)
	return strings.Repeat("0", digitsOfBits-len(digits)) + digits
}

// readNumber writes the number again because ParseInt also reads signs and
// capital letters, and because only one of all not-a-numbers has a text.
func readNumber(s string) (float32, bool) {
	n, err := strconv.ParseInt(s, 16, 64)
	if err != nil {
		return 0, false
	}
	x, ok := FromBits(n)
	if !ok || numberText(x) != s {
		return 0, false
	}
	return x, true
}

// ComplexText returns the text of complex numbers.
func ComplexText(list []complex64) (string, bool) {
	if len(list) > MaxNumbers {
		return "", false
	}
	return joinTexts(list, comma, complexText), true
}

// ReadComplex returns the complex numbers with the given text.
func ReadComplex(s string) ([]complex64, bool) { return splitText(s, comma, MaxNumbers, readComplex) }

func complexText(x complex64) string { return numberText(real(x)) + numberText(imag(x)) }

func readComplex(s string) (complex64, bool) {
	if len(s) != 2*digitsOfBits {
		return 0, false
	}
	a, ok := readNumber(s[:digitsOfBits])
	if !ok {
		return 0, false
	}
	b, ok := readNumber(s[digitsOfBits:])
	if !ok {
		return 0, false
	}
	return complex(a, b), true
}

// IsName reports whether s is a name.
func IsName(s string) bool {
	if len(s) < 1 || len(s) > maxLetters {
		return false
	}
	for i := range len(s) {
		if s[i] < 'a' || s[i] > 'z' {
			return false
		}
	}
	return true
}

// Decimal returns n in decimal.
func Decimal(n int64) string { return strconv.FormatInt(n, 10) }

// ReadDecimal returns the number with the given decimal text.
func ReadDecimal(s string) (int64, bool) {
	n, err := strconv.ParseInt(s, 10, 64)
	if err != nil || !isValue(n) || Decimal(n) != s {
		return 0, false
	}
	return n, true
}

func isValue(n int64) bool { return n >= -MaxValue && n <= MaxValue }

// ListText returns the text of a list.
func ListText(list []int64) (string, bool) {
	if len(list) > MaxItems {
		return "", false
	}
	for _, n := range list {
		if !isValue(n) {
			return "", false
		}
	}
	return joinTexts(list, comma, Decimal), true
}

// ReadList returns the list with the given text.
func ReadList(s string) ([]int64, bool) { return splitText(s, comma, MaxItems, ReadDecimal) }

// CheckOf returns the check number of a text.
func CheckOf(start int64, s string) (int64, bool) {
	if start < 0 || start >= CheckSize {
		return 0, false
	}
	check := start
	for i := range len(s) {
		check = (809*check + int64(s[i]) + 103) % CheckSize
	}
	return check, true
}
