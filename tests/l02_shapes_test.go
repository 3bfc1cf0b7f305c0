package tests

import (
	"fmt"
	"testing"

	"loop.example/g01284/impl"
)

func TestCircleBodiesWithoutMass(t *testing.T) {
	less := number(minusZero)
	want(t, "the first one", bodiesTold(impl.CircleBodies(0, 4, 1)),
		bodiesText([]impl.Body{bodyOf(vectorOf(-1, 0, 0), vectorOf(0, -2, 0), 0), massAt(0, 0, 0, 4)}))
	want(t, "the second one", bodiesTold(impl.CircleBodies(4, 0, 1)),
		bodiesText([]impl.Body{bodyOf(vectorOf(less, 0, 0), vectorOf(0, less, 0), 4), bodyOf(vectorOf(1, 0, 0), vectorOf(0, 2, 0), 0)}))
	want(t, "a mass of -0", bodiesTold(impl.CircleBodies(4, less, 1)),
		bodiesText([]impl.Body{massAt(0, 0, 0, 4), bodyOf(vectorOf(1, 0, 0), vectorOf(0, 2, 0), less)}))
	want(t, "both", bodiesTold(impl.CircleBodies(0, less, 1)), "fail")
}

func TestCirclesNearTheLimits(t *testing.T) {
	most, small, less := number(mostBits), number(leastBits), number(minusZero)
	want(t, "an infinite sum", bodiesTold(impl.CircleBodies(most, most, 1e-3)), "fail")
	want(t, "an infinite product", bodiesTold(impl.CircleBodies(most, 1, 2)), "fail")
	want(t, "so near that the rate is infinite", bodiesTold(impl.CircleBodies(1, 1, 1e-20)), "fail")
	want(t, "so far that the rate is 0", bodiesTold(impl.CircleBodies(1, 1, 1e20)),
		bodiesText([]impl.Body{bodyOf(vectorOf(-1e20/2, 0, 0), vectorOf(0, less, 0), 1), massAt(1e20/2, 0, 0, 1)}))
	want(t, "the least mass", bodiesTold(impl.CircleBodies(small, 0, 1)),
		bodiesText([]impl.Body{
			bodyOf(vectorOf(less, 0, 0), vectorOf(0, less, 0), small),
			bodyOf(vectorOf(1, 0, 0), vectorOf(0, impl.RootNumber(small), 0), 0),
		}))
}

func TestCircleBodiesFail(t *testing.T) {
	for _, x := range append(wrongCores(), -3) {
		want(t, fmt.Sprint("mass ", x), bodiesTold(impl.CircleBodies(x, 5, 1)), "fail")
		want(t, fmt.Sprint("other ", x), bodiesTold(impl.CircleBodies(5, x, 1)), "fail")
		want(t, fmt.Sprint("apart ", x), bodiesTold(impl.CircleBodies(5, 5, x)), "fail")
		want(t, fmt.Sprint("radius ", x), bodiesTold(impl.PolygonBodies(3, x, 5)), "fail")
		want(t, fmt.Sprint("mass of all ", x), bodiesTold(impl.PolygonBodies(3, 5, x)), "fail")
	}
	want(t, "the radius -1, and no mass", bodiesTold(impl.PolygonBodies(3, -1, 0)), "fail")
	for _, zero := range []float32{0, number(minusZero)} {
		want(t, "0 apart", bodiesTold(impl.CircleBodies(5, 5, zero)), "fail")
		want(t, "the radius 0", bodiesTold(impl.PolygonBodies(3, zero, 5)), "fail")
	}
	for _, count := range []int64{-1 << 63, -2, -1, 0, 1, impl.MaxBodies + 1, 1 << 32, 1<<63 - 1} {
		want(t, fmt.Sprint("count ", count), bodiesTold(impl.PolygonBodies(count, 1, 1)), "fail")
	}
}

func TestPolygonBodies(t *testing.T) {
	less := number(minusZero)
	want(t, "two", bodiesTold(impl.PolygonBodies(2, 1, 4)), bodiesText([]impl.Body{
		bodyOf(vectorOf(1, 0, 0), vectorOf(less, 1, 0), 4), bodyOf(vectorOf(-1, less, 0), vectorOf(0, -1, 0), 4),
	}))
	for count := int64(2); count <= impl.MaxBodies; count++ {
		list, ok := impl.PolygonBodies(count, 2, 0.5)
		want(t, "polygon", ok, true)
		want(t, "count", int64(len(list)), count)
		for k, b := range list {
			if d := impl.SizeOfVector(b.At) - 2; d > 1e-5 || d < -1e-5 {
				t.Errorf("%d of %d is at %v", k, count, b.At)
			}
			if inner := impl.InnerOf(b.At, b.Speed); inner > 1e-5 || inner < -1e-5 {
				t.Errorf("%d of %d goes with %v at %v", k, count, b.Speed, b.At)
			}
			want(t, "mass", b.Mass, 0.5)
		}
		list, _ = impl.RunBodies(list, 0, 0.01, impl.MaxRun)
		for k, b := range list {
			if d := impl.SizeOfVector(b.At) - 2; d > 1e-3 || d < -1e-3 {
				t.Errorf("%d of %d comes to %v", k, count, b.At)
			}
		}
	}
}

func TestPolygonsNearTheLimits(t *testing.T) {
	less := number(minusZero)
	want(t, "a cube that is 0", bodiesTold(impl.PolygonBodies(2, 1e-20, 1)), "fail")
	want(t, "no mass, and a cube that is 0", bodiesTold(impl.PolygonBodies(2, 1e-20, 0)), "fail")
	want(t, "an infinite mass", bodiesTold(impl.PolygonBodies(4, 1, 3e38)), "fail")
	want(t, "an infinite mass and cube", bodiesTold(impl.PolygonBodies(4, 1e30, 3e38)), "fail")
	want(t, "an infinite cube", bodiesTold(impl.PolygonBodies(2, 1e20, 1)),
		bodiesText([]impl.Body{
			bodyOf(vectorOf(1e20, 0, 0), vectorOf(less, 0, 0), 1), bodyOf(vectorOf(-1e20, less, 0), vectorOf(0, less, 0), 1),
		}))
	want(t, "a mass of -0", bodiesTold(impl.PolygonBodies(2, 1, less)), bodiesText([]impl.Body{
		bodyOf(vectorOf(1, 0, 0), vectorOf(0, less, 0), less), bodyOf(vectorOf(-1, less, 0), vectorOf(less, 0, 0), less),
	}))
}
