package tests

import (
	"fmt"
	"math"
	"slices"
	"testing"

	"loop.example/g01284/impl"
)

func TestSquaresFailForWrongArguments(t *testing.T) {
	a, b := []float32{2, 1, 1, 3}, []float32{1, 2}
	var wrongSquares, wrongGoals [][]float32
	for _, x := range wrongNumbers() {
		for i := range a {
			wrong := slices.Clone(a)
			wrong[i] = x
			wrongSquares = append(wrongSquares, wrong)
		}
		wrongGoals = append(wrongGoals, []float32{x, 2}, []float32{1, x})
	}
	for _, count := range []int{0, 1, 2, 3, 5, 8, 9, 16} {
		wrongSquares = append(wrongSquares, repeated(float32(1), count))
	}
	for _, count := range []int{0, 1, 3, 4, 6} {
		wrongGoals = append(wrongGoals, repeated(float32(1), count))
	}
	wantFailing(t, "SolveSquare, a", impl.SolveSquare, []any{a, b}, 0, wrongSquares)
	wantFailing(t, "SolveSquare, b", impl.SolveSquare, []any{a, b}, 1, wrongGoals)
}

// unit has ones where row and column are equal, times by.
func unit(n int, by float32) []float32 {
	a := make([]float32, n*n)
	for i := range n {
		a[i*n+i] = by
	}
	return a
}

func TestSquaresOfEachSize(t *testing.T) {
	for n := range 10 {
		b, half := make([]float32, n), make([]float32, n)
		for i := range b {
			b[i], half[i] = float32(3*i-4), float32(3*i-4)/2
		}
		told := numbersTold(half, n >= 1 && n <= 6)
		want(t, fmt.Sprint("rows ", n), numbersTold(impl.SolveSquare(unit(n, 2), b)), told)
	}
}

// All orders of the rows of a square lead to the same numbers.
func TestRowsThatChangePlaces(t *testing.T) {
	for n := 1; n <= 6; n++ {
		x := []float32{7, -2, 0.5, 11, -0.25, 3}[:n]
		for order := range 720 {
			a, b := make([]float32, n*n), make([]float32, n)
			places := []int{0, 1, 2, 3, 4, 5}[:n]
			rest := order
			for i := range n {
				k := i + rest%(n-i)
				rest /= n - i
				places[i], places[k] = places[k], places[i]
				a[i*n+places[i]], b[i] = 4, 4*x[places[i]]
			}
			want(t, fmt.Sprint("places ", places), numbersTold(impl.SolveSquare(a, b)), numbersTold(x, true))
		}
	}
	want(t, "two rows", numbersTold(impl.SolveSquare([]float32{0, 2, 4, 0}, []float32{2, 8})), numbersTold([]float32{2, 1}, true))
	// The second column is looked at in the rows that are left only.
	want(t, "the first row is greater", numbersTold(impl.SolveSquare([]float32{4, 100, 0, 2}, []float32{104, 2})), numbersTold([]float32{1, 1}, true))
}

// The rows have the same absolute values in the first column, so that the first
// one stays, and rounding tells which it was.
func TestEqualAbsoluteValues(t *testing.T) {
	one, other := []float32{0.1, 0.7}, []float32{-0.1, 0.3}
	first := numbersTold(impl.SolveSquare(append(slices.Clone(one), other...), []float32{0.2, 0.9}))
	second := numbersTold(impl.SolveSquare(append(slices.Clone(other), one...), []float32{0.9, 0.2}))
	want(t, "one in front", first, "c0b66666,3f8ccccd")
	want(t, "the other in front", second, "c0b66665,3f8ccccd")
}

func TestSquaresThatCannotBeSolved(t *testing.T) {
	most, less, least := number(mostBits), number(minusZero), number(leastBits)
	for what, row := range map[string]solving{
		"0":                              {[]float32{0}, []float32{1}},
		"-0":                             {[]float32{less}, []float32{0}},
		"rows that are the same":         {[]float32{1, 2, 1, 2}, []float32{3, 3}},
		"a row that is twice another":    {[]float32{1, 2, 3, 2, 4, 6, 1, 0, 1}, []float32{1, 2, 3}},
		"a column of zeros":              {[]float32{1, 0, 2, 3, less, 4, 5, 0, 6}, []float32{1, 2, 3}},
		"a row of zeros":                 {[]float32{1, 2, 0, less}, []float32{1, 0}},
		"all zeros":                      {make([]float32, 36), make([]float32, 6)},
		"a number that is not finite":    {[]float32{least}, []float32{1}},
		"one on the way":                 {[]float32{1, most, 0, 0.5}, []float32{1, 1}},
		"not-a-numbers in a row":         {[]float32{1, 3e38, 1, -1, 3e38, 1, -1, 3e38, 1}, []float32{1, 2, 3}},
		"not-a-numbers in a column":      {[]float32{1, 3e38, 3e38, -1, 3e38, 3e38, 0.5, 1, 2}, []float32{1, 2, 3}},
		"not-a-numbers beside a number":  {[]float32{1, 3e38, 1, 0, -1, 3e38, 1, 0, -1, 3e38, 1, 0, 0, 0, 5, 1}, []float32{1, 2, 3, 4}},
		"a not-a-number at the end":      {[]float32{1, 0, 3e38, -1, 1, 3e38, -1, 1, 3e38}, []float32{1, 1, 1}},
		"a not-a-number among the goals": {[]float32{1, 0, 0, -1, 1, 0, -1, 1, 1}, []float32{most, most, most}},
	} {
		want(t, what, numbersTold(impl.SolveSquare(row.a, row.b)), "fail")
	}
	want(t, "an infinite number on the way", numbersTold(impl.SolveSquare([]float32{1, 3e38, -1, 3e38}, []float32{1, 1})), numbersTold([]float32{1, 0}, true))
	want(t, "a subnormal one", numbersTold(impl.SolveSquare([]float32{least}, []float32{-least})), numbersTold([]float32{-1}, true))
	want(t, "zeros to make", numbersTold(impl.SolveSquare([]float32{-2, 0, 0, 2}, []float32{0, less})), numbersTold([]float32{less, 0}, true))
}

// Each row of a square makes nearly its number of what solves it.
func TestSolvedSquaresAreRight(t *testing.T) {
	seed := uint32(5)
	draw := func() float32 {
		drawn, next := drawnOf(seed)
		seed = next
		return drawn
	}
	for count := range 2000 {
		n := count%6 + 1
		a, b := make([]float32, n*n), make([]float32, n)
		for i := range a {
			a[i] = draw()
		}
		for i := range b {
			b[i] = draw()
			// The numbers on a diagonal from the lower left are the greatest.
			a[i*n+n-1-i] += float32(n)
		}
		x, ok := impl.SolveSquare(a, b)
		want(t, fmt.Sprint("square ", count), ok && len(x) == n, true)
		for i := range b {
			sum := 0.0
			for k := range x {
				sum += float64(a[i*n+k]) * float64(x[k])
			}
			want(t, fmt.Sprint("square ", count, ", row ", i), math.Abs(sum-float64(b[i])) < 1e-5, true)
		}
	}
}
