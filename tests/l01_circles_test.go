package tests

import (
	"fmt"
	"math"
	"testing"

	"loop.example/g01284/impl"
)

// The tables of this file were computed by another program, in another
// language, that follows the text of the document.

func near(a, b, apart float64) bool { return math.Abs(a-b) <= apart }

func wantRows(t *testing.T, what string, f func(float32) float32, rows [][2]uint32) {
	t.Helper()
	for _, r := range rows {
		wantNumber(t, fmt.Sprintf("%s of %08x", what, r[0]), f(number(r[0])), r[1])
	}
}

func TestSines(t *testing.T) {
	wantRows(t, "sine", impl.SineTurns, [][2]uint32{
		// These need every term of the series.
		{0x3e434f37, 0x3f6e7421}, {0x3e5d0d36, 0x3f7a22f0}, {0x3e5d23f5, 0x3f7a2a88},
		{0x00000000, 0x00000000}, {0x80000000, 0x80000000}, {0x00000001, 0x00000006},
		{0x80000001, 0x80000000}, {0x3e800000, 0x3f800000}, {0x3f000000, 0x80000000},
		{0x3f400000, 0xbf800000}, {0x3f800000, 0x00000000}, {0xbf800000, 0x00000000},
		{0xbe800000, 0xbf800000}, {0xbf000000, 0x80000000}, {0x3dcccccd, 0x3f167918},
		{0xbdcccccd, 0xbf167918}, {0x3f19999a, 0xbf16791a}, {0x8da24260, 0x80000000},
		{0x0da24260, 0x0efee054}, {0x3daaaaab, 0x3f000000}, {0x40533333, 0x3f737872},
		{0xc0f66666, 0x3f73786a}, {0x449a5225, 0xbed146ee}, {0x4b000000, 0x00000000},
		{0x4affffff, 0x80000000}, {0xcaffffff, 0x80000000}, {0x597fffff, 0x00000000},
		{0x59800000, 0x00000000}, {0xd9800000, 0x00000000}, {0x7f7fffff, 0x00000000},
		{0xff7fffff, 0x00000000},
		{infBits, nanBits}, {lessInf, nanBits}, {nanBits, nanBits},
	})
	for k := -4000; k <= 4000; k++ {
		x := float32(k) / 1024
		exact := math.Sin(2 * math.Pi * float64(x))
		if got := impl.SineTurns(x); !near(float64(got), exact, 1e-7) {
			t.Errorf("sine of %v: got %v, want %v, nearly", x, got, exact)
		}
	}
}

// Each row has a number of turns, and the bits of both parts.
func TestPhasors(t *testing.T) {
	rows := []struct {
		turns  float64
		re, im uint32
	}{
		{0, 0x3f800000, 0x00000000},
		{math.Copysign(0, -1), 0x3f800000, 0x80000000},
		{0.25, 0x00000000, 0x3f800000},
		{0.5, 0xbf800000, 0x00000000},
		{0.75, 0x00000000, 0xbf800000},
		{1.0, 0x3f800000, 0x00000000},
		{-0.25, 0x00000000, 0xbf800000},
		{-0.5, 0xbf800000, 0x00000000},
		{-0.75, 0x00000000, 0x3f800000},
		{-1.0, 0x3f800000, 0x00000000},
		{0.125, 0x3f3504f3, 0x3f3504f3},
		{0.1, 0x3f4f1bbd, 0x3f167918},
		{0.35, 0xbf167918, 0x3f4f1bbd},
		{0.6, 0xbf4f1bbd, 0xbf167918},
		{0.85, 0x3f167918, 0xbf4f1bbd},
		{-0.1, 0x3f4f1bbd, 0xbf167918},
		{7.2, 0x3e9e377a, 0x3f737871},
		{-1e-30, 0x3f800000, 0x00000000},
		{1e-30, 0x3f800000, 0x0efee054},
		{0.24999999999999997, 0x25490fdb, 0x3f800000},
		{0.25000000000000006, 0xa5c90fdb, 0x3f800000},
		{4503599627370495.5, 0xbf800000, 0x00000000},
		{-4503599627370495.5, 0xbf800000, 0x00000000},
		{4503599627370496.0, 0x3f800000, 0x00000000},
		{-4503599627370496.0, 0x3f800000, 0x00000000},
		{9007199254740994.0, 0x3f800000, 0x00000000},
		{1e+300, 0x3f800000, 0x00000000},
		{math.Nextafter(0x1p52, math.Inf(1)), oneBits, plusZero},
		{math.NaN(), nanBits, nanBits}, {math.Inf(1), nanBits, nanBits}, {math.Inf(-1), nanBits, nanBits},
	}
	for _, r := range rows {
		wantComplex(t, fmt.Sprint("phasor of ", r.turns), impl.PhasorOf(r.turns), r.re, r.im)
	}
	for k := -4000; k <= 4000; k++ {
		turns := float64(k) / 900
		s, c := math.Sincos(2 * math.Pi * turns)
		got := impl.PhasorOf(turns)
		if !near(float64(real(got)), c, 1e-7) || !near(float64(imag(got)), s, 1e-7) {
			t.Errorf("phasor of %v: got %v, want %v, nearly", turns, got, complex(c, s))
		}
	}
}

// Each row has the bits of y, of x, and of the angle.
func TestAngles(t *testing.T) {
	rows := [][3]uint32{
		{0x00000000, 0x3f800000, 0x00000000}, {0x80000000, 0x3f800000, 0x00000000},
		{0x00000000, 0xbf800000, 0x3f000000}, {0x80000000, 0xbf800000, 0x3f000000},
		{0x3f800000, 0x00000000, 0x3e800000}, {0xbf800000, 0x00000000, 0xbe800000},
		{0x3f800000, 0x80000000, 0x3e800000}, {0xbf800000, 0x80000000, 0xbe800000},
		{0x00000000, 0x00000000, 0x00000000}, {0x80000000, 0x80000000, 0x00000000},
		{0x00000000, 0x80000000, 0x00000000}, {0x80000000, 0x00000000, 0x00000000},
		{0x3f800000, 0x3f800000, 0x3e000000}, {0x3f800000, 0xbf800000, 0x3ec00000},
		{0xbf800000, 0xbf800000, 0xbec00000}, {0xbf800000, 0x3f800000, 0xbe000000},
		{0x3f800000, 0x40000000, 0x3d972029}, {0x40000000, 0x3f800000, 0x3e346fec},
		{0xc0400000, 0x40800000, 0xbdd1bfae}, {0x40800000, 0xc0400000, 0x3eb46fec},
		{0x00000001, 0x3f800000, 0x00000000}, {0x80000001, 0x3f800000, 0x80000000},
		{0x00000001, 0xbf800000, 0x3f000000}, {0x3f800000, 0x00000001, 0x3e800000},
		{0x00000001, 0x00000001, 0x3e000000}, {0x00000001, 0x00000002, 0x3d972029},
		{0x7f7fffff, 0x00000001, 0x3e800000}, {0x00000001, 0x7f7fffff, 0x00000000},
		{0x3dcccccd, 0x3f333333, 0x3cb90148},
		{infBits, oneBits, nanBits}, {oneBits, infBits, nanBits}, {lessInf, oneBits, nanBits},
		{oneBits, lessInf, nanBits}, {nanBits, oneBits, nanBits}, {oneBits, nanBits, nanBits},
		{infBits, infBits, nanBits}, {plusZero, nanBits, nanBits}, {infBits, plusZero, nanBits},
	}
	for _, r := range rows {
		y, x := number(r[0]), number(r[1])
		wantNumber(t, fmt.Sprintf("angle of %08x, %08x", r[0], r[1]), impl.AngleTurns(y, x), r[2])
		wantNumber(t, fmt.Sprintf("angle of a number %08x, %08x", r[0], r[1]), impl.AngleOf(complex(x, y)), r[2])
	}
	for k := -90; k <= 90; k++ {
		for m := -90; m <= 90; m++ {
			y, x := float32(k)/7, float32(m)/5
			exact := math.Atan2(float64(y), float64(x)) / (2 * math.Pi)
			got := impl.AngleTurns(y, x)
			if !near(float64(got), exact, 1e-7) || got < -0.5 || got > 0.5 {
				t.Errorf("angle of %v, %v: got %v, want %v, nearly", y, x, got, exact)
			}
		}
	}
}

func TestAnglesOfPhasors(t *testing.T) {
	for k := -127; k < 128; k++ {
		turns := float64(k) / 256
		if got := impl.AngleOf(impl.PhasorOf(turns)); !near(float64(got), turns, 1e-7) {
			t.Errorf("angle of the phasor of %v: got %v", turns, got)
		}
	}
}

// Each row has the bits of a power, and its tenths; those of two rows that
// follow one another are often neighbours where the tenths become more.
func TestTenths(t *testing.T) {
	rows := []struct {
		bits   uint32
		tenths int64
	}{
		{0x00000001, -4485}, {0x007fffff, -3793}, {0x00800000, -3793},
		{0x7f7fffff, 3853}, {0x3f800000, 0}, {0x40000000, 30},
		{0x41200000, 100}, {0x3dcccccd, -100}, {0x41c80000, 140},
		{0x3f000000, -30}, {0x3f7fffff, 0}, {0x00011391, -4001},
		{0x00011392, -4000}, {0x3f774f1c, -2}, {0x3f774f1d, -1},
		{0x3f7d11d0, -1}, {0x3f7d11d1, 0}, {0x3f817b6f, 0},
		{0x3f817b70, 1}, {0x3f847f89, 1}, {0x3f847f8a, 2},
		{0x3ffc7859, 29}, {0x3ffc785a, 30}, {0x411e2b22, 99},
		{0x411e2b23, 100}, {0x7f7bffff, 3852}, {0x7f7c0000, 3853},
	}
	for _, r := range rows {
		n, ok := impl.TenthsOf(number(r.bits))
		want(t, fmt.Sprintf("tenths of %08x", r.bits), n, r.tenths)
		want(t, fmt.Sprintf("tenths of %08x succeeds", r.bits), ok, true)
	}
	for _, bits := range []uint32{plusZero, minusZero, leastBits | minusZero, 0xbf800000, infBits, lessInf, nanBits, 0xffc00001} {
		n, ok := impl.TenthsOf(number(bits))
		want(t, fmt.Sprintf("tenths of %08x", bits), n, 0)
		want(t, fmt.Sprintf("tenths of %08x succeeds", bits), ok, false)
	}
	for k := -37; k <= 37; k++ {
		n, _ := impl.TenthsOf(float32(math.Pow10(k)))
		want(t, fmt.Sprint("tenths of ten to the power of ", k), n, int64(100*k))
	}
}

func TestLogs(t *testing.T) {
	wantRows(t, "log", impl.LogNumber, [][2]uint32{
		{0x00000000, 0xff800000}, {0x80000000, 0xff800000}, {0x00000001, 0xc2ce8ed0},
		{0x00000002, 0xc2cd2bec}, {0x007fffff, 0xc2aeac50}, {0x00800000, 0xc2aeac50},
		{0x3f000000, 0xbf317218}, {0x3f400000, 0xbe934b11}, {0x3f3fffff, 0xbe934b13},
		{0x3f7fffff, 0xb3800000}, {0x3f800000, 0x00000000}, {0x3f800001, 0x33ffffff},
		{0x3fbfffff, 0x3ecf991d}, {0x3fc00000, 0x3ecf991f}, {0x40000000, 0x3f317218},
		{0x402df854, 0x3f7fffff}, {0x41200000, 0x40135d8e}, {0x7f7fffff, 0x42b17218},
		{0x7f800000, 0x7f800000}, {0x80000001, 0x7fc00000}, {0xbf800000, 0x7fc00000},
		{0xff800000, 0x7fc00000},
		{nanBits, nanBits}, {0xff800001, nanBits},
	})
	for _, x := range manyNumbers() {
		exact := math.Log(float64(x))
		if got := float64(impl.LogNumber(x)); x > 0 && impl.IsFinite(x) && !near(got, exact, 1e-6+1e-7*math.Abs(exact)) {
			t.Errorf("log of %v: got %v, want %v, nearly", x, got, exact)
		}
	}
}

func TestExps(t *testing.T) {
	wantRows(t, "exp", impl.ExpNumber, [][2]uint32{
		// These need every term of the series.
		{0x4286088f, 0x6fcdbda3}, {0x42940fd7, 0x74df7d6c}, {0xc294b03a, 0x09d6605b}, {0xc29749e5, 0x08e9aaa0},
		{0x00000000, 0x3f800000}, {0x80000000, 0x3f800000}, {0x00000001, 0x3f800000},
		{0x80000001, 0x3f800000}, {0x3f800000, 0x402df854}, {0xbf800000, 0x3ebc5ab2},
		{0x3f000000, 0x3fd3094c}, {0x40000000, 0x40ec7326}, {0x41200000, 0x46ac14ee},
		{0xc1200000, 0x383e6bce}, {0x42b17217, 0x7f7fff84}, {0x42b17218, 0x7f800000},
		{0xc2aeac50, 0x007fffe6}, {0xc2aeac4f, 0x00800026}, {0xc2cff1b4, 0x00000001},
		{0xc2cff1b5, 0x00000000}, {0xc2ce8ed0, 0x00000001}, {0x43480000, 0x7f800000},
		{0x43480001, 0x7f800000}, {0xc3480000, 0x00000000}, {0xc3480001, 0x00000000},
		{0x7f800000, 0x7f800000}, {0xff800000, 0x00000000},
		{nanBits, nanBits}, {0xff800001, nanBits},
	})
	for k := -8800; k <= 8800; k++ {
		x := float32(k) / 100
		exact := math.Exp(float64(x))
		if got := float64(impl.ExpNumber(x)); !near(got, exact, 1e-6*exact+0x1p-149) {
			t.Errorf("exp of %v: got %v, want %v, nearly", x, got, exact)
		}
	}
}
