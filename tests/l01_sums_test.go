package tests

import (
	"fmt"
	"testing"

	"loop.example/g01284/impl"
)

const big = 16777216 // 1 is lost when it is added to this as a 32-bit number

func wantSum(t *testing.T, what string, list []float32, bits uint32) {
	t.Helper()
	got, ok := impl.SumNumbers(list)
	wantNumber(t, what, got, bits)
	want(t, what+" succeeds", ok, true)
	whole := make([]complex64, len(list))
	for i, x := range list {
		whole[i] = complex(x, x)
	}
	both, ok := impl.SumComplex(whole)
	wantComplex(t, what+" of complex numbers", both, bits, bits)
	want(t, what+" of complex numbers succeeds", ok, true)
}

func TestSums(t *testing.T) {
	less := number(minusZero)
	wantSum(t, "sum of none", nil, plusZero)
	wantSum(t, "sum of an empty list", []float32{}, plusZero)
	wantSum(t, "sum of -0", []float32{less, less}, plusZero)
	wantSum(t, "sum", []float32{1, 2, 3.5}, bitsOf(6.5))
	wantSum(t, "sum of 32-bit numbers", []float32{big, 1, 1}, bitsOf(big))
	wantSum(t, "sum from left to right", []float32{1, 1, big}, bitsOf(big+2))
	wantSum(t, "sum of subnormal numbers", []float32{number(subnormal), number(leastBits)}, leastNorm)
	wantSum(t, "sum that is too large", []float32{number(mostBits), number(mostBits), -number(mostBits)}, infBits)
	wantSum(t, "sum of infinities", []float32{number(infBits), number(lessInf)}, nanBits)
	wantSum(t, "sum with a not-a-number", []float32{1, number(nanBits), 1}, nanBits)
}

func TestSumsAddPartByPart(t *testing.T) {
	got, ok := impl.SumComplex([]complex64{complex(1, big), complex(big, 1), complex(1, -big)})
	wantComplex(t, "sum", got, bitsOf(big), plusZero)
	want(t, "sum succeeds", ok, true)
}

func TestDotsOfNumbers(t *testing.T) {
	less := number(minusZero)
	rows := []struct {
		a, b []float32
		bits uint32
	}{
		{nil, []float32{}, plusZero},
		{[]float32{1, 2}, []float32{3, 4}, bitsOf(11)},
		{[]float32{less}, []float32{1}, plusZero},
		{[]float32{-(1 + 0x1p-11), 1 + 0x1p-12}, []float32{1, 1 + 0x1p-12}, plusZero},
		{[]float32{big, 1, 1}, []float32{1, 1, 1}, bitsOf(big)},
		{[]float32{1, 1, big}, []float32{1, 1, 1}, bitsOf(big + 2)},
		{[]float32{0}, []float32{number(infBits)}, nanBits},
		{[]float32{number(mostBits), -1}, []float32{2, number(mostBits)}, infBits},
		{[]float32{number(leastBits)}, []float32{0.5}, plusZero},
	}
	for _, r := range rows {
		got, ok := impl.DotNumbers(r.a, r.b)
		wantNumber(t, fmt.Sprint("dot of ", r.a, r.b), got, r.bits)
		want(t, fmt.Sprint("dot succeeds ", r.a, r.b), ok, true)
	}
}

func TestDotsOfComplexNumbers(t *testing.T) {
	i := complex64(complex(0, 1))
	a := []complex64{complex(1, 2), i, complex(-3, 1)}
	b := []complex64{complex(3, -1), complex(2, 5), 4}
	got, ok := impl.DotComplex(a, b)
	want(t, "dot", got, complex(5-5-12, 5+2+4))
	want(t, "dot succeeds", ok, true)
	got, ok = impl.DotConjugate(a, b)
	want(t, "dot of conjugates", got, complex(1+5-12, -7-2-4))
	want(t, "dot of conjugates succeeds", ok, true)
	got, _ = impl.DotConjugate([]complex64{1}, []complex64{i})
	want(t, "the conjugates are those of the first list", got, i)
	got, _ = impl.DotConjugate([]complex64{i}, []complex64{1})
	want(t, "not those of the second one", got, -i)
	got, ok = impl.DotComplex(nil, []complex64{})
	wantComplex(t, "dot of none", got, plusZero, plusZero)
	want(t, "dot of none succeeds", ok, true)
	got, ok = impl.DotConjugate([]complex64{}, nil)
	wantComplex(t, "dot of conjugates of none", got, plusZero, plusZero)
	want(t, "dot of conjugates of none succeeds", ok, true)
}

func TestDotsOfComplexNumbersRound(t *testing.T) {
	near := complex64(complex(1+0x1p-12, 0))
	list := []complex64{complex(-(1 + 0x1p-11), 0), near}
	got, _ := impl.DotComplex(list, []complex64{1, near})
	wantComplex(t, "products are narrowed before they are added", got, plusZero, plusZero)
	got, _ = impl.DotConjugate(list, []complex64{1, near})
	wantComplex(t, "products of conjugates are, too", got, plusZero, plusZero)
	got, _ = impl.DotComplex([]complex64{big, 1, 1}, []complex64{1, 1, 1})
	want(t, "sums are 32-bit numbers", got, big)
	got, _ = impl.DotConjugate([]complex64{1, 1, big}, []complex64{1, 1, 1})
	want(t, "sums go from left to right", got, big+2)
}

func TestPowersOfLists(t *testing.T) {
	rows := []struct {
		list []complex64
		bits uint32
	}{
		{nil, plusZero},
		{[]complex64{0, complex(number(minusZero), 0)}, plusZero},
		{[]complex64{complex(3, 4), 1}, bitsOf(26)},
		{[]complex64{4096, 1, 1}, bitsOf(big + 2)},
		{[]complex64{4096, 1}, bitsOf(big)},
		{[]complex64{complex(number(mostBits), 0)}, infBits},
		{[]complex64{complex(1, number(lessInf))}, infBits},
		{[]complex64{complex(1, number(nanBits)), 1}, nanBits},
		{[]complex64{complex(number(leastBits), 0)}, plusZero},
		{[]complex64{0x1p40, 1, complex(0, 1)}, bitsOf(0x1p80)},
	}
	for _, r := range rows {
		got, ok := impl.PowersOf(r.list)
		wantNumber(t, fmt.Sprint("powers of ", r.list), got, r.bits)
		want(t, fmt.Sprint("powers succeed ", r.list), ok, true)
	}
}

func TestSumsTakeMaxNumbers(t *testing.T) {
	for _, count := range []int{impl.MaxNumbers, impl.MaxNumbers + 1} {
		ones, whole := repeated(float32(1), count), repeated(complex64(complex(1, 1)), count)
		fits := count == impl.MaxNumbers
		n := float32(0)
		if fits {
			n = float32(count)
		}
		sum, one := impl.SumNumbers(ones)
		dot, two := impl.DotNumbers(ones, ones)
		powers, three := impl.PowersOf(whole)
		total, four := impl.SumComplex(whole)
		product, five := impl.DotComplex(whole, whole)
		turned, six := impl.DotConjugate(whole, whole)
		want(t, "success", [6]bool{one, two, three, four, five, six}, [6]bool{fits, fits, fits, fits, fits, fits})
		want(t, "sums", [3]float32{sum, dot, powers}, [3]float32{n, n, 2 * n})
		want(t, "sums of complex numbers", [3]complex64{total, product, turned}, [3]complex64{complex(n, n), complex(0, 2*n), complex(2*n, 0)})
	}
}

func TestDotsNeedOneLength(t *testing.T) {
	lists := [][2]int{{0, 1}, {1, 0}, {2, 3}, {255, 256}, {256, 257}, {257, 256}, {257, 0}}
	for _, l := range lists {
		what := fmt.Sprint(l)
		got, ok := impl.DotNumbers(repeated(float32(1), l[0]), repeated(float32(1), l[1]))
		wantNumber(t, "dot "+what, got, plusZero)
		want(t, "dot fails "+what, ok, false)
		a, b := repeated(complex64(1), l[0]), repeated(complex64(1), l[1])
		product, ok := impl.DotComplex(a, b)
		wantComplex(t, "dot of complex numbers "+what, product, plusZero, plusZero)
		want(t, "dot of complex numbers fails "+what, ok, false)
		product, ok = impl.DotConjugate(a, b)
		wantComplex(t, "dot of conjugates "+what, product, plusZero, plusZero)
		want(t, "dot of conjugates fails "+what, ok, false)
	}
}
