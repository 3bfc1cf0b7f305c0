package tests

import (
	"fmt"
	"math"
	"testing"

	"loop.example/g01284/impl"
)

func TestExamplesOfChapter1(t *testing.T) {
	want(t, "product", impl.MulComplex(complex(1, 2), complex(3, -1)), complex(5, 5))
	want(t, "quotient", impl.QuotientOf(complex(0, 4), 2), complex(0, 2))
	wantComplex(t, "phasor", impl.PhasorOf(0.25), plusZero, oneBits)
	want(t, "angle", impl.AngleOf(impl.PhasorOf(0.25)), 0.25)
	text, ok := impl.ComplexText([]complex64{1})
	want(t, "text of 1", text, "3f80000000000000")
	want(t, "text of 1 succeeds", ok, true)
	tenths, ok := impl.TenthsOf(1)
	want(t, "tenths of 1", tenths, 0)
	want(t, "tenths of 1 succeeds", ok, true)
}

func TestSameNumber(t *testing.T) {
	list := manyNumbers()
	for i, a := range list {
		for _, k := range []int{i, (i + 1) % len(list), (i + 10) % len(list), len(list) - 1 - i} {
			b := list[k]
			want(t, fmt.Sprintf("same %08x %08x", math.Float32bits(a), math.Float32bits(b)), impl.SameNumber(a, b), bitsOf(a) == bitsOf(b))
		}
	}
	want(t, "zeros", impl.SameNumber(number(plusZero), number(minusZero)), false)
	want(t, "zeros, the other way", impl.SameNumber(number(minusZero), number(plusZero)), false)
	want(t, "not-a-numbers", impl.SameNumber(number(0x7f800001), number(0xffc12345)), true)
	want(t, "not-a-number and 0", impl.SameNumber(number(nanBits), 0), false)
}

func TestIsFinite(t *testing.T) {
	for _, x := range manyNumbers() {
		finite := math.Float32bits(x)&infBits != infBits
		want(t, fmt.Sprint("finite ", x), impl.IsFinite(x), finite)
		want(t, fmt.Sprint("finite as real part ", x), impl.IsFiniteComplex(complex(x, 1)), finite)
		want(t, fmt.Sprint("finite as imaginary part ", x), impl.IsFiniteComplex(complex(1, x)), finite)
	}
}

func TestBitsAreToldAndReadBack(t *testing.T) {
	for _, x := range manyNumbers() {
		n := impl.BitsOf(x)
		want(t, fmt.Sprint("bits of ", x), n, int64(bitsOf(x)))
		back, ok := impl.FromBits(int64(math.Float32bits(x)))
		wantNumber(t, "from bits", back, bitsOf(x))
		want(t, "from bits succeeds", ok, true)
	}
	want(t, "bits of a not-a-number", impl.BitsOf(number(0xff800001)), 2143289344)
	want(t, "bits of 1", impl.BitsOf(1), 1065353216)
	want(t, "bits of -0", impl.BitsOf(number(minusZero)), 2147483648)
}

func TestFromBitsLimits(t *testing.T) {
	for _, n := range []int64{math.MinInt64, -1, 4294967296, 1<<32 + oneBits, math.MaxInt64} {
		x, ok := impl.FromBits(n)
		wantNumber(t, fmt.Sprint("from bits ", n), x, plusZero)
		want(t, fmt.Sprint("from bits succeeds ", n), ok, false)
	}
	x, ok := impl.FromBits(0)
	wantNumber(t, "from bits 0", x, plusZero)
	want(t, "from bits 0 succeeds", ok, true)
	x, ok = impl.FromBits(4294967295)
	wantNumber(t, "from bits 4294967295", x, nanBits)
	want(t, "from bits 4294967295 succeeds", ok, true)
}

// Each row has a 64-bit number, and the bits of it narrowed.
func TestNarrowing(t *testing.T) {
	rows := []struct {
		x    float64
		bits uint32
	}{
		{0, plusZero}, {math.Copysign(0, -1), minusZero}, {1, oneBits}, {0.1, 0x3dcccccd},
		{1 + 0x1p-24, oneBits}, {1 + 0x1p-24 + 0x1p-50, oneBits + 1}, {1 + 0x3p-24, oneBits + 2},
		{0x1p-149, leastBits}, {0x1p-150, plusZero}, {-0x1p-150, minusZero}, {0x1p-150 + 0x1p-200, leastBits},
		{0x3p-150, 2}, {0x1p-126 - 0x1p-150, leastNorm}, {0x1p-126 - 0x1p-149, subnormal},
		{0x1.fffffep127, mostBits}, {0x1.fffffefp127, mostBits}, {0x1.ffffffp127, infBits}, {-0x1.ffffffp127, lessInf},
		{1e300, infBits}, {-1e300, lessInf}, {5e-324, plusZero}, {-5e-324, minusZero},
		{math.Inf(1), infBits}, {math.Inf(-1), lessInf}, {math.NaN(), nanBits},
	}
	for _, r := range rows {
		wantNumber(t, fmt.Sprint("narrow ", r.x), impl.NarrowNumber(r.x), r.bits)
		wantComplex(t, fmt.Sprint("narrow real part ", r.x), impl.NarrowComplex(complex(r.x, 0.5)), r.bits, 0x3f000000)
		wantComplex(t, fmt.Sprint("narrow imaginary part ", r.x), impl.NarrowComplex(complex(-2, r.x)), 0xc0000000, r.bits)
	}
	for _, x := range manyNumbers() {
		wantNumber(t, "narrow a 32-bit number", impl.NarrowNumber(float64(x)), bitsOf(x))
	}
}

func TestSubnormalNumbers(t *testing.T) {
	for _, x := range manyNumbers() {
		rest := math.Float32bits(x) &^ minusZero
		is := rest > 0 && rest < leastNorm
		flushed := bitsOf(x)
		if is {
			flushed &= minusZero
		}
		want(t, fmt.Sprint("subnormal ", x), impl.IsSubnormal(x), is)
		wantNumber(t, fmt.Sprint("flush ", x), impl.FlushNumber(x), flushed)
	}
	want(t, "greatest subnormal number", impl.IsSubnormal(number(subnormal)), true)
	want(t, "least other number", impl.IsSubnormal(number(leastNorm)), false)
	wantNumber(t, "flush -least", impl.FlushNumber(number(leastBits|minusZero)), minusZero)
	wantNumber(t, "flush least", impl.FlushNumber(number(leastBits)), plusZero)
}

func TestSameComplex(t *testing.T) {
	zero, less := number(plusZero), number(minusZero)
	want(t, "equal", impl.SameComplex(complex(1, -2), complex(1, -2)), true)
	want(t, "other real part", impl.SameComplex(complex(1, -2), complex(2, -2)), false)
	want(t, "other imaginary part", impl.SameComplex(complex(1, -2), complex(1, 2)), false)
	want(t, "zeros as real parts", impl.SameComplex(complex(zero, 1), complex(less, 1)), false)
	want(t, "zeros as imaginary parts", impl.SameComplex(complex(1, zero), complex(1, less)), false)
	want(t, "equal zeros", impl.SameComplex(complex(less, zero), complex(less, zero)), true)
	want(t, "not-a-numbers", impl.SameComplex(complex(number(nanBits), 1), complex(number(0xff800001), 1)), true)
	want(t, "not-a-number in another part", impl.SameComplex(complex(number(nanBits), 1), complex(1, number(nanBits))), false)
}

func TestProductsOfSmallIntegersAreExact(t *testing.T) {
	for a := -12; a <= 12; a++ {
		for b := -12; b <= 12; b++ {
			for _, p := range [][2]int{{0, 0}, {1, 0}, {0, 1}, {3, -7}, {-11, 12}, {5, 5}} {
				c, d := p[0], p[1]
				x, y := complex(float32(a), float32(b)), complex(float32(c), float32(d))
				what := fmt.Sprint(x, y)
				want(t, "product "+what, impl.MulComplex(x, y), complex(float32(a*c-b*d), float32(a*d+b*c)))
				want(t, "scaled "+what, impl.ScaleComplex(x, float32(c)), complex(float32(a*c), float32(b*c)))
				want(t, "power "+what, impl.PowerOf(x), float32(a*a+b*b))
				if y != 0 {
					want(t, "quotient "+what, impl.QuotientOf(impl.MulComplex(x, y), y), x)
				}
			}
		}
	}
}

func TestMulComplexRoundsOnce(t *testing.T) {
	near := float32(1 + 0x1p-12)
	x, y := complex(near, 1), complex(near, float32(1+0x1p-11))
	want(t, "real part", real(impl.MulComplex(x, y)), 0x1p-24)
	want(t, "imaginary part", imag(impl.MulComplex(complex(near, -1), complex(1+0x1p-11, near))), 0x1p-24)
	small, most := number(leastBits), number(mostBits)
	want(t, "too large in between", real(impl.MulComplex(complex(most, most), complex(most, most))), 0)
	want(t, "too small in between", real(impl.MulComplex(complex(small, 1), complex(small, -small))), small)
}

func TestMulComplexZerosAndInfinities(t *testing.T) {
	less, inf := number(minusZero), number(infBits)
	wantComplex(t, "-0 by 1", impl.MulComplex(complex(less, 0), 1), minusZero, plusZero)
	wantComplex(t, "-0 - 0 i by 1", impl.MulComplex(complex(less, less), 1), plusZero, minusZero)
	wantComplex(t, "infinity by 1", impl.MulComplex(complex(inf, 0), 1), infBits, nanBits)
	wantComplex(t, "infinity by 1 + i", impl.MulComplex(complex(inf, 0), complex(1, 1)), infBits, infBits)
	wantComplex(t, "not-a-number by 0", impl.MulComplex(complex(number(nanBits), 0), 0), nanBits, nanBits)
}

func TestScaleComplexAndConjugate(t *testing.T) {
	less := number(minusZero)
	wantComplex(t, "by -1", impl.ScaleComplex(complex(1, less), -1), 0xbf800000, plusZero)
	wantComplex(t, "by -0", impl.ScaleComplex(complex(1, -1), less), minusZero, plusZero)
	wantComplex(t, "infinity by 0", impl.ScaleComplex(complex(number(infBits), 1), 0), nanBits, plusZero)
	wantComplex(t, "rounded", impl.ScaleComplex(complex(1+0x1p-12, 3), 1+0x1p-12), bitsOf(1+0x1p-11), bitsOf(3+0x3p-12))
	wantComplex(t, "conjugate of 1", impl.ConjugateOf(1), oneBits, minusZero)
	wantComplex(t, "conjugate of 1 - 0 i", impl.ConjugateOf(complex(1, less)), oneBits, plusZero)
	wantComplex(t, "conjugate of -0 + i", impl.ConjugateOf(complex(less, 1)), minusZero, 0xbf800000)
	wantComplex(t, "conjugate of infinities", impl.ConjugateOf(complex(number(infBits), number(infBits))), infBits, lessInf)
}

func TestPowersAndLengths(t *testing.T) {
	small, most := number(leastBits), number(mostBits)
	want(t, "power of 3 + 4 i", impl.PowerOf(complex(3, 4)), 25)
	want(t, "long of 3 + 4 i", impl.LongOf(complex(-3, 4)), 5)
	wantNumber(t, "power of the greatest", impl.PowerOf(complex(most, 0)), infBits)
	wantNumber(t, "long of the greatest", impl.LongOf(complex(0, most)), mostBits)
	wantNumber(t, "long of the greatest two", impl.LongOf(complex(most, most)), infBits)
	wantNumber(t, "power of the least", impl.PowerOf(complex(small, small)), plusZero)
	wantNumber(t, "long of the least", impl.LongOf(complex(-small, 0)), leastBits)
	wantNumber(t, "long of subnormal parts", impl.LongOf(complex(3*small, 4*small)), 5)
	wantNumber(t, "power of zeros", impl.PowerOf(complex(number(minusZero), number(minusZero))), plusZero)
	wantNumber(t, "power of an infinity", impl.PowerOf(complex(1, number(lessInf))), infBits)
	wantNumber(t, "long of a not-a-number", impl.LongOf(complex(number(infBits), number(nanBits))), nanBits)
	want(t, "power is rounded once", impl.PowerOf(complex(4096, 1)), 16777216)
	want(t, "power of 64-bit numbers", impl.PowerOf(complex(4097, 1)), 16785410)
}

func TestQuotients(t *testing.T) {
	small, inf := number(leastBits), number(infBits)
	wantComplex(t, "1 by 3", impl.QuotientOf(1, 3), 0x3eaaaaab, plusZero)
	wantComplex(t, "1 by i", impl.QuotientOf(1, complex(0, 1)), plusZero, 0xbf800000)
	wantComplex(t, "least by least", impl.QuotientOf(complex(small, 0), complex(small, 0)), oneBits, plusZero)
	wantComplex(t, "1 by 0", impl.QuotientOf(1, 0), nanBits, nanBits)
	wantComplex(t, "infinity by 0", impl.QuotientOf(complex(inf, 0), 0), nanBits, nanBits)
	wantComplex(t, "1 by infinity", impl.QuotientOf(1, complex(inf, 0)), nanBits, nanBits)
	wantComplex(t, "-0 by 1", impl.QuotientOf(complex(number(minusZero), number(minusZero)), 1), minusZero, plusZero)
	wantComplex(t, "4 i by -2", impl.QuotientOf(complex(0, 4), -2), plusZero, 0xc0000000)
}

func TestRoots(t *testing.T) {
	rows := [][2]uint32{
		{plusZero, plusZero}, {minusZero, minusZero}, {oneBits, oneBits}, {0x41100000, 0x40400000},
		{0x40000000, 0x3fb504f3}, {leastBits, 0x1a3504f3}, {subnormal, 0x1fffffff}, {leastNorm, 0x20000000},
		{mostBits, 0x5f7fffff}, {infBits, infBits}, {lessInf, nanBits}, {leastBits | minusZero, nanBits},
		{0xbf800000, nanBits}, {nanBits, nanBits},
	}
	for _, r := range rows {
		wantNumber(t, fmt.Sprintf("root of %08x", r[0]), impl.RootNumber(number(r[0])), r[1])
	}
}
