package tests

import (
	"math"
	"testing"
)

const (
	plusZero  = 0x00000000
	minusZero = 0x80000000
	leastBits = 0x00000001
	subnormal = 0x007fffff
	leastNorm = 0x00800000
	oneBits   = 0x3f800000
	mostBits  = 0x7f7fffff
	infBits   = 0x7f800000
	lessInf   = 0xff800000
	nanBits   = 0x7fc00000
)

func number(bits uint32) float32 { return math.Float32frombits(bits) }

// bitsOf does not use the package that is tested.
func bitsOf(x float32) uint32 {
	if x != x {
		return nanBits
	}
	return math.Float32bits(x)
}

func wantNumber(t *testing.T, what string, got float32, want uint32) {
	t.Helper()
	if bitsOf(got) != want {
		t.Errorf("%s: got %v (%08x), want %v (%08x)", what, got, bitsOf(got), number(want), want)
	}
}

func wantComplex(t *testing.T, what string, got complex64, re, im uint32) {
	t.Helper()
	wantNumber(t, what+", real part", real(got), re)
	wantNumber(t, what+", imaginary part", imag(got), im)
}

func want[T comparable](t *testing.T, what string, got, want T) {
	t.Helper()
	if got != want {
		t.Errorf("%s: got %v, want %v", what, got, want)
	}
}

// manyNumbers has numbers of every exponent and both signs, subnormal ones,
// zeros, infinities and not-a-numbers among them.
func manyNumbers() []float32 {
	var list []float32
	for exponent := range uint32(256) {
		for _, places := range []uint32{0, 1, 0x2aaaaa, 0x400000, 0x7fffff} {
			bits := exponent<<23 | places
			list = append(list, number(bits), number(bits|minusZero))
		}
	}
	return list
}

func repeated[T any](value T, count int) []T {
	list := make([]T, count)
	for i := range list {
		list[i] = value
	}
	return list
}
