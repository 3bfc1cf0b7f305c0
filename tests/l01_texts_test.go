package tests

import (
	"fmt"
	"math"
	"strings"
	"testing"

	"loop.example/g01284/impl"
)

func TestTextsOfNumbers(t *testing.T) {
	rows := []struct {
		list []float32
		text string
	}{
		{nil, "none"},
		{[]float32{}, "none"},
		{[]float32{1}, "3f800000"},
		{[]float32{0, number(minusZero)}, "00000000,80000000"},
		{[]float32{number(leastBits), number(subnormal), number(leastNorm)}, "00000001,007fffff,00800000"},
		{[]float32{number(infBits), number(lessInf), number(0xff812345)}, "7f800000,ff800000,7fc00000"},
		{repeated(float32(-2), impl.MaxNumbers), strings.Repeat("c0000000,", 255) + "c0000000"},
	}
	for _, r := range rows {
		text, ok := impl.NumbersText(r.list)
		want(t, "text", text, r.text)
		want(t, "text succeeds "+r.text, ok, true)
		list, ok := impl.ReadNumbers(r.text)
		want(t, "read succeeds "+r.text, ok, true)
		want(t, "length "+r.text, len(list), len(r.list))
		for i, x := range list {
			wantNumber(t, "read "+r.text, x, bitsOf(r.list[i]))
		}
	}
}

func TestTextsOfComplexNumbers(t *testing.T) {
	rows := []struct {
		list []complex64
		text string
	}{
		{nil, "none"},
		{[]complex64{}, "none"},
		{[]complex64{1, complex(0, -2)}, "3f80000000000000,00000000c0000000"},
		{[]complex64{complex(number(minusZero), number(leastBits))}, "8000000000000001"},
		{[]complex64{complex(number(0xffc00001), number(lessInf))}, "7fc00000ff800000"},
		{repeated(complex64(complex(-2, 1)), impl.MaxNumbers), strings.Repeat("c00000003f800000,", 255) + "c00000003f800000"},
	}
	for _, r := range rows {
		text, ok := impl.ComplexText(r.list)
		want(t, "text", text, r.text)
		want(t, "text succeeds "+r.text, ok, true)
		list, ok := impl.ReadComplex(r.text)
		want(t, "read succeeds "+r.text, ok, true)
		want(t, "length "+r.text, len(list), len(r.list))
		for i, x := range list {
			wantComplex(t, "read "+r.text, x, bitsOf(real(r.list[i])), bitsOf(imag(r.list[i])))
		}
	}
}

func TestTextsTellEveryBit(t *testing.T) {
	for _, x := range manyNumbers() {
		text, ok := impl.NumbersText([]float32{x, 1})
		want(t, "text", text, fmt.Sprintf("%08x,3f800000", bitsOf(x)))
		want(t, "text succeeds", ok, true)
		list, ok := impl.ReadNumbers(text)
		want(t, "read succeeds", ok && len(list) == 2, true)
		wantNumber(t, "read "+text, list[0], bitsOf(x))
		v := vectorOf(1, x, -x)
		text = impl.VectorText(v)
		want(t, "text of a vector", text, fmt.Sprintf("3f800000,%08x,%08x", bitsOf(x), bitsOf(-x)))
		back, ok := impl.ReadVector(text)
		want(t, "read vector succeeds", ok, true)
		wantVector(t, "read vector "+text, back, oneBits, bitsOf(x), bitsOf(-x))
	}
}

func TestTooManyNumbersHaveNoText(t *testing.T) {
	count := impl.MaxNumbers + 1
	text, ok := impl.NumbersText(repeated(float32(1), count))
	want(t, "text of 257", text, "")
	want(t, "text of 257 fails", ok, false)
	text, ok = impl.ComplexText(repeated(complex64(1), count))
	want(t, "text of 257 complex numbers", text, "")
	want(t, "text of 257 complex numbers fails", ok, false)
	list, ok := impl.ReadNumbers(strings.Repeat("3f800000,", impl.MaxNumbers) + "3f800000")
	want(t, "read 257", ok || len(list) > 0, false)
	whole, ok := impl.ReadComplex(strings.Repeat("3f80000000000000,", impl.MaxNumbers) + "3f80000000000000")
	want(t, "read 257 complex numbers", ok || len(whole) > 0, false)
}

// noNumbers are texts of no list, of numbers with 8 digits.
func noNumbers() []string {
	return []string{
		"", ",", "None", "none,", ",none", "none,none", "none,3f800000", "3f800000,none", " none",
		"3f80000", "3f8000000", "3F800000", "3f80000G", "3f80000g", "+f800000", "-0000001", "0x3f8000", "3f80_000", " f800000",
		"3f800000,", ",3f800000", "3f800000,,3f800000", "3f800000, 3f800000", "3f800000 3f800000", "3f800000\n", " 3f800000",
		"7fc00001", "ffc00000", "7f800001", "ffffffff", "7fffffff", "3f800000,7f800001", "100000000", "000000000", "\xff\xff\xff\xff\xff\xff\xff\xff",
	}
}

func TestReadNumbersRefuses(t *testing.T) {
	for _, s := range noNumbers() {
		list, ok := impl.ReadNumbers(s)
		want(t, fmt.Sprintf("read %q", s), ok || len(list) > 0, false)
		v, ok := impl.ReadVector(s)
		want(t, fmt.Sprintf("read vector %q", s), ok || v != vectorOf(0, 0, 0), false)
	}
}

func TestReadComplexRefuses(t *testing.T) {
	for _, s := range noNumbers() {
		tries := []string{s, "3f800000" + s, s + "3f800000", "3f80000000000000," + s}
		if s == "" {
			tries = []string{s, "3f80000000000000,"}
		}
		for _, text := range tries {
			list, ok := impl.ReadComplex(text)
			want(t, fmt.Sprintf("read %q", text), ok || len(list) > 0, false)
		}
	}
	for _, s := range []string{"3f800000", "3f80000", "3f800000000000000", "3f8000000000000", "3f800000,00000000", "3f8000000000000A"} {
		list, ok := impl.ReadComplex(s)
		want(t, fmt.Sprintf("read %q", s), ok || len(list) > 0, false)
	}
}

func TestReadVectorNeedsThree(t *testing.T) {
	for _, s := range []string{"none", "3f800000", "3f800000,3f800000", "3f800000,3f800000,3f800000,3f800000", "3f800000,3f800000,7fc00001", "3f800000,3f800000,3f800000,"} {
		v, ok := impl.ReadVector(s)
		want(t, "read "+s, ok || v != vectorOf(0, 0, 0), false)
	}
	v, ok := impl.ReadVector("3f800000,00000000,c0000000")
	want(t, "read three", v, vectorOf(1, 0, -2))
	want(t, "read three succeeds", ok, true)
	want(t, "text of not-a-numbers", impl.VectorText(vectorOf(number(0xffffffff), number(minusZero), number(infBits))), "7fc00000,80000000,7f800000")
}

func TestNames(t *testing.T) {
	for _, s := range []string{"a", "z", "ring", "abcdefgh", "zzzzzzzz"} {
		want(t, "name "+s, impl.IsName(s), true)
	}
	for _, s := range []string{"", "abcdefghi", "A", "aB", "a1", "a b", "a ", " a", "a\n", "`", "{", "ä", "a\x00", "\xff", "moon-"} {
		want(t, fmt.Sprintf("name %q", s), impl.IsName(s), false)
	}
}

func TestDecimals(t *testing.T) {
	rows := map[int64]string{
		0: "0", 7: "7", -4: "-4", 10: "10", -1000: "-1000",
		impl.MaxValue: "1000000000000000", -impl.MaxValue: "-1000000000000000",
	}
	for n, s := range rows {
		want(t, "decimal", impl.Decimal(n), s)
		got, ok := impl.ReadDecimal(s)
		want(t, "read "+s, got, n)
		want(t, "read succeeds "+s, ok, true)
	}
	want(t, "decimal past the limit", impl.Decimal(impl.MaxValue+1), "1000000000000001")
	want(t, "decimal of the greatest", impl.Decimal(math.MaxInt64), "9223372036854775807")
	want(t, "decimal of the least", impl.Decimal(math.MinInt64), "-9223372036854775808")
}

// noDecimals are texts of no number, and of those beyond the limits.
func noDecimals() []string {
	return []string{
		"", "-", "+", "-0", "00", "01", "-01", "+1", "--1", "1-", " 1", "1 ", "1\n", "1_000", "1.0", "1e3", "0x1", "a", "\u0661",
		"1000000000000001", "-1000000000000001", "9223372036854775807", "9223372036854775808", "-9223372036854775808",
		"99999999999999999999", "18446744073709551617", strings.Repeat("1", 1000), strings.Repeat("0", 1000),
	}
}

func TestReadDecimalRefuses(t *testing.T) {
	for _, s := range append(noDecimals(), "none", "1,2") {
		n, ok := impl.ReadDecimal(s)
		want(t, fmt.Sprintf("read %q", s), n, 0)
		want(t, fmt.Sprintf("read %q fails", s), ok, false)
	}
}

func TestTextsOfLists(t *testing.T) {
	rows := []struct {
		list []int64
		text string
	}{
		{nil, "none"},
		{[]int64{}, "none"},
		{[]int64{0}, "0"},
		{[]int64{3, -4, 3}, "3,-4,3"},
		{[]int64{impl.MaxValue, -impl.MaxValue}, "1000000000000000,-1000000000000000"},
		{repeated(int64(9), impl.MaxItems), strings.Repeat("9,", impl.MaxItems-1) + "9"},
	}
	for _, r := range rows {
		text, ok := impl.ListText(r.list)
		want(t, "text", text, r.text)
		want(t, "text succeeds "+r.text, ok, true)
		list, ok := impl.ReadList(r.text)
		want(t, "read "+r.text, fmt.Sprint(list), fmt.Sprint(r.list))
		want(t, "read succeeds "+r.text, ok, true)
	}
}

func TestListsBeyondLimits(t *testing.T) {
	for _, list := range [][]int64{{impl.MaxValue + 1}, {-impl.MaxValue - 1}, {1, math.MinInt64}, {math.MaxInt64, 1}, repeated(int64(9), impl.MaxItems+1)} {
		text, ok := impl.ListText(list)
		want(t, fmt.Sprint("text of ", list), text, "")
		want(t, fmt.Sprint("text fails of ", list), ok, false)
	}
	tries := []string{"none,", "none,1", "1,none", "None", ",", "1,", ",1", "1,,2", "1, 2", "1;2", strings.Repeat("9,", impl.MaxItems) + "9"}
	for _, s := range noDecimals() {
		tries = append(tries, s, "1,"+s, s+",1")
	}
	for _, s := range tries {
		list, ok := impl.ReadList(s)
		want(t, fmt.Sprintf("read %q", s), ok || len(list) > 0, false)
	}
}

func TestCheckNumbers(t *testing.T) {
	rows := []struct {
		start int64
		text  string
		check int64
	}{
		{0, "", 0}, {1, "", 1}, {impl.CheckSize - 1, "", impl.CheckSize - 1},
		{0, "a", 200}, {0, "ab", 31995}, {0, "ba", 32803}, {0, "The quick brown fox", 21390},
		{impl.CheckSize - 1, "\xff", 64552}, {0, "\x00", 103}, {1, "\x00", 912},
	}
	for _, r := range rows {
		check, ok := impl.CheckOf(r.start, r.text)
		want(t, fmt.Sprintf("check of %d, %q", r.start, r.text), check, r.check)
		want(t, fmt.Sprintf("check succeeds of %d, %q", r.start, r.text), ok, true)
	}
	for _, start := range []int64{math.MinInt64, -1, impl.CheckSize, math.MaxInt64} {
		for _, s := range []string{"", "a"} {
			check, ok := impl.CheckOf(start, s)
			want(t, fmt.Sprint("check from ", start), check, 0)
			want(t, fmt.Sprint("check fails from ", start), ok, false)
		}
	}
}

func TestCheckNumbersGoOn(t *testing.T) {
	all := "\x00\x7f\x80\xffThe quick brown fox\n"
	whole, _ := impl.CheckOf(17, all)
	for i := range len(all) + 1 {
		first, _ := impl.CheckOf(17, all[:i])
		last, ok := impl.CheckOf(first, all[i:])
		want(t, fmt.Sprint("check in two parts at ", i), last, whole)
		want(t, fmt.Sprint("check succeeds in two parts at ", i), ok, true)
	}
	long, ok := impl.CheckOf(impl.CheckSize-1, strings.Repeat("\xff", 100000))
	want(t, "check of a long text is in range", ok && long >= 0 && long < impl.CheckSize, true)
}
