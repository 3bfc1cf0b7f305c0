package tests

import (
	"fmt"
	"testing"

	"loop.example/g01284/impl"
)

func vectorOf(x, y, z float32) impl.Vector { return impl.Vector{X: x, Y: y, Z: z} }

func wantVector(t *testing.T, what string, got impl.Vector, x, y, z uint32) {
	t.Helper()
	wantNumber(t, what+", X", got.X, x)
	wantNumber(t, what+", Y", got.Y, y)
	wantNumber(t, what+", Z", got.Z, z)
}

func TestVectorsOfSmallIntegersAreExact(t *testing.T) {
	list := [][3]int{{0, 0, 0}, {1, 2, 3}, {-4, 5, -6}, {7, 0, -8}, {100, -200, 300}}
	for _, a := range list {
		for _, b := range list {
			v := vectorOf(float32(a[0]), float32(a[1]), float32(a[2]))
			w := vectorOf(float32(b[0]), float32(b[1]), float32(b[2]))
			what := fmt.Sprint(a, b)
			want(t, "sum "+what, impl.AddVectors(v, w), vectorOf(v.X+w.X, v.Y+w.Y, v.Z+w.Z))
			want(t, "difference "+what, impl.LessVectors(v, w), vectorOf(v.X-w.X, v.Y-w.Y, v.Z-w.Z))
			want(t, "inner product "+what, impl.InnerOf(v, w), float32(a[0]*b[0]+a[1]*b[1]+a[2]*b[2]))
			want(t, "cross "+what, impl.CrossOf(v, w), vectorOf(float32(a[1]*b[2]-a[2]*b[1]), float32(a[2]*b[0]-a[0]*b[2]), float32(a[0]*b[1]-a[1]*b[0])))
			want(t, "scaled "+what, impl.ScaleVector(v, w.X), vectorOf(float32(a[0]*b[0]), float32(a[1]*b[0]), float32(a[2]*b[0])))
			want(t, "between "+what, impl.BetweenVectors(v, w, 1), w)
		}
	}
}

func TestVectorsKeepSignsOfZeros(t *testing.T) {
	less := number(minusZero)
	v := vectorOf(less, 0, 1)
	wantVector(t, "sum", impl.AddVectors(v, vectorOf(less, less, -1)), minusZero, plusZero, plusZero)
	wantVector(t, "difference", impl.LessVectors(v, vectorOf(0, 0, 1)), minusZero, plusZero, plusZero)
	wantVector(t, "scaled by -0", impl.ScaleVector(v, less), plusZero, minusZero, minusZero)
	wantNumber(t, "inner product", impl.InnerOf(vectorOf(less, less, less), vectorOf(1, 1, 1)), minusZero)
	wantNumber(t, "inner product with +0", impl.InnerOf(vectorOf(less, less, 0), vectorOf(1, 1, 1)), plusZero)
	wantVector(t, "cross", impl.CrossOf(vectorOf(less, less, less), vectorOf(1, 1, 1)), plusZero, plusZero, plusZero)
	wantNumber(t, "size", impl.SizeOfVector(vectorOf(less, less, less)), plusZero)
}

func TestVectorsRoundEachProduct(t *testing.T) {
	near, next := float32(1+0x1p-12), float32(1+0x1p-11)
	wantNumber(t, "inner product", impl.InnerOf(vectorOf(near, -1, 0), vectorOf(near, next, 0)), plusZero)
	wantNumber(t, "inner product, last one", impl.InnerOf(vectorOf(0, -1, near), vectorOf(0, next, near)), plusZero)
	want(t, "inner product from left to right", impl.InnerOf(vectorOf(big, 1, 1), vectorOf(1, 1, 1)), big)
	want(t, "inner product, the other way", impl.InnerOf(vectorOf(1, 1, big), vectorOf(1, 1, 1)), big+2)
	wantVector(t, "cross, X", impl.CrossOf(vectorOf(0, near, 1), vectorOf(0, next, near)), plusZero, plusZero, plusZero)
	wantVector(t, "cross, Y", impl.CrossOf(vectorOf(1, 0, near), vectorOf(near, 0, next)), plusZero, plusZero, plusZero)
	wantVector(t, "cross, Z", impl.CrossOf(vectorOf(near, 1, 0), vectorOf(next, near, 0)), plusZero, plusZero, plusZero)
	wantVector(t, "scaled and added", impl.AddVectors(impl.ScaleVector(vectorOf(near, near, near), near), vectorOf(-next, -next, -next)), plusZero, plusZero, plusZero)
}

func TestSizesOfVectors(t *testing.T) {
	most, small := number(mostBits), number(leastBits)
	want(t, "3, 4", impl.SizeOfVector(vectorOf(3, -4, 0)), 5)
	want(t, "2, 3, 6", impl.SizeOfVector(vectorOf(2, 3, 6)), 7)
	wantNumber(t, "too large in between", impl.SizeOfVector(vectorOf(most, 0, 0)), infBits)
	wantNumber(t, "too small in between", impl.SizeOfVector(vectorOf(small, small, small)), plusZero)
	wantNumber(t, "an infinity", impl.SizeOfVector(vectorOf(1, number(lessInf), 1)), infBits)
	wantNumber(t, "a not-a-number", impl.SizeOfVector(vectorOf(number(infBits), 1, number(nanBits))), nanBits)
}

func TestBetweenVectors(t *testing.T) {
	a, b := vectorOf(1, 0, -2), vectorOf(3, 4, 2)
	want(t, "half", impl.BetweenVectors(a, b, 0.5), vectorOf(2, 2, 0))
	want(t, "none", impl.BetweenVectors(a, b, 0), a)
	want(t, "further", impl.BetweenVectors(a, b, 2), vectorOf(5, 8, 6))
	want(t, "back", impl.BetweenVectors(a, b, -1), vectorOf(-1, -4, -6))
	far := vectorOf(1e8, 1e8, 1e8)
	want(t, "differences are rounded", impl.BetweenVectors(far, vectorOf(1, 1, 1), 1), vectorOf(0, 0, 0))
	wantVector(t, "infinity less infinity", impl.BetweenVectors(vectorOf(number(infBits), 0, 0), vectorOf(number(infBits), 1, 0), 0), nanBits, plusZero, plusZero)
}

func TestSameVector(t *testing.T) {
	less := number(minusZero)
	v := vectorOf(1, less, number(nanBits))
	want(t, "itself", impl.SameVector(v, v), true)
	want(t, "another not-a-number", impl.SameVector(v, vectorOf(1, less, number(0xff800001))), true)
	want(t, "another X", impl.SameVector(v, vectorOf(-1, less, number(nanBits))), false)
	want(t, "another zero", impl.SameVector(v, vectorOf(1, 0, number(nanBits))), false)
	want(t, "another Z", impl.SameVector(v, vectorOf(1, less, 1)), false)
	want(t, "zeros as X", impl.SameVector(vectorOf(0, 1, 1), vectorOf(less, 1, 1)), false)
	want(t, "zeros as Z", impl.SameVector(vectorOf(1, 1, less), vectorOf(1, 1, 0)), false)
	want(t, "other order", impl.SameVector(vectorOf(1, 2, 3), vectorOf(3, 2, 1)), false)
}
