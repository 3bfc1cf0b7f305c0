package tests

import (
	"fmt"
	"math"
	"testing"

	"loop.example/g01284/impl"
)

func ordinaryShares() []float32 { return []float32{0.5, 0.4, 0.3, 0.1, 0.04, 0.01215, 0.001, 1e-5} }

func leastShares() []float32 { return []float32{1e-10, 1e-20, number(leastNorm), number(leastBits)} }

func TestPointsOf(t *testing.T) {
	for _, share := range append(ordinaryShares(), leastShares()...) {
		what := fmt.Sprint("the share ", share)
		greater, lesser, _ := impl.MassesAt(share)
		points, ok := impl.PointsOf(share)
		want(t, what, ok && len(points) == 5, true)
		first, second, third := real(points[0]), real(points[1]), real(points[2])
		want(t, what+", the first one", greater+0.001 <= first && first < lesser, true)
		want(t, what+", the second one", lesser+0.001 <= second && second < 2, true)
		want(t, what+", the third one", -2 < third && third < greater, true)
		for _, at := range points[:3] {
			want(t, what+", on the axis", numberText(imag(at)), numberText(0))
		}
		want(t, what+", aside", complexText(points[3])+complexText(points[4]), complexText(complex(0.5-share, 0.8660254))+complexText(complex(0.5-share, -0.8660254)))
		for _, at := range points[3:] {
			near1 := near(float64(impl.LongOf(at-complex(greater, 0))), 1, 1e-6) && near(float64(impl.LongOf(at-complex(lesser, 0))), 1, 1e-6)
			want(t, what+", as far from both masses", near1, true)
		}
	}
}

// TestPointsAreLastLows looks at where the slope changes its sign: each point
// on the axis is the last place before, as 26 halvings leave nothing between.
func TestPointsAreLastLows(t *testing.T) {
	for _, share := range ordinaryShares()[:7] {
		points, _ := impl.PointsOf(share)
		for i, at := range points[:3] {
			here, _ := impl.SlopeAt(share, at)
			far := float32(0x1p-21)
			beyond, ok := impl.SlopeAt(share, at+complex(far, 0))
			want(t, fmt.Sprint("the share ", share, ", the point ", i), ok && real(here) <= 0 && real(beyond) > 0, true)
		}
	}
}

func TestPointsOfTheShareOfAHalf(t *testing.T) {
	points, _ := impl.PointsOf(0.5)
	want(t, "the first one is low", math.Abs(float64(real(points[0]))) < 1e-7 && real(points[0]) != 0, true)
	want(t, "the outer ones are opposite", near(float64(real(points[1]+points[2])), 0, 1e-6), true)
	want(t, "one of them", near(float64(real(points[1])), 1.19840614, 1e-6), true)
	want(t, "aside", numberText(real(points[3]))+numberText(real(points[4])), numberText(0)+numberText(0))
}

// TestPointsOfTheLeastShares has shares for which there is no point of rest
// between the masses that is 0.001 away from both.
func TestPointsOfTheLeastShares(t *testing.T) {
	for _, share := range leastShares() {
		points, _ := impl.PointsOf(share)
		want(t, fmt.Sprint("the first one of ", share), near(float64(real(points[0])), 0.999, 1e-6), true)
		want(t, fmt.Sprint("the second one of ", share), near(float64(real(points[1])), 1.001, 1e-6), true)
		want(t, fmt.Sprint("the third one of ", share), near(float64(real(points[2])), -1, 1e-6), true)
	}
}

func TestGatesOf(t *testing.T) {
	for _, share := range append(ordinaryShares(), leastShares()...) {
		gates, ok := impl.GatesOf(share)
		want(t, fmt.Sprint("the share ", share), ok && len(gates) == 5, true)
		points, _ := impl.PointsOf(share)
		for i, at := range points {
			want(t, fmt.Sprint("the gate ", i, " of ", share), numberTold(impl.ConstantOf(share, impl.Ship{At: at})), numberText(gates[i]))
		}
		want(t, fmt.Sprint("the gates aside of ", share), numberText(gates[3]), numberText(gates[4]))
		most := max(gates[1], gates[2], gates[3])
		want(t, fmt.Sprint("the first gate of ", share, " opens first"), gates[0] >= most, true)
	}
}

func TestPointsFailForWrongShares(t *testing.T) {
	for _, share := range wrongShares() {
		want(t, fmt.Sprint("points of ", share), pointsTold(impl.PointsOf(share)), "fail")
		want(t, fmt.Sprint("gates of ", share), numbersTold(impl.GatesOf(share)), "fail")
	}
}

// TestSwaysAt has, for all scenes where it is one, the sum and the product of
// the two numbers that the document tells.
func TestSwaysAt(t *testing.T) {
	for i, c := range scenes()[:14] {
		xx, xy, yy, _ := impl.BendsAt(c.share, c.ship.At)
		first, second, ok := impl.SwaysAt(c.share, c.ship.At)
		want(t, fmt.Sprint("scene ", i), ok, true)
		sum, product := complex128(first)+complex128(second), complex128(first)*complex128(second)
		apart := 1e-4 * (1 + math.Abs(float64(xx)) + math.Abs(float64(yy)))
		want(t, fmt.Sprint("sum of scene ", i), near(real(sum), float64(xx+yy)-4, apart) && imag(sum) == 0, true)
		goal := float64(xx)*float64(yy) - float64(xy)*float64(xy)
		want(t, fmt.Sprint("product of scene ", i), near(real(product), goal, apart*(1+math.Abs(goal))) && near(imag(product), 0, 1e-6), true)
		if imag(first) == 0 {
			want(t, fmt.Sprint("the greater one of scene ", i), real(first) >= real(second) && bitsOf(imag(first)) == 0 && bitsOf(imag(second)) == 0, true)
		} else {
			want(t, fmt.Sprint("conjugates of scene ", i), imag(first) > 0 && impl.SameComplex(second, impl.ConjugateOf(first)), true)
		}
	}
}

func TestSwaysThatAreNotFinite(t *testing.T) {
	// The bends are finite, but not their products.
	at := complex(-float32(0.3), 1e-9)
	want(t, "bends", bendsTold(impl.BendsAt(0.3, at)) != "fail", true)
	want(t, "sways", swaysTold(impl.SwaysAt(0.3, at)), "fail")
	want(t, "steady", impl.IsSteady(0.3, at), false)
}

func TestIsSteady(t *testing.T) {
	least := number(leastBits)
	want(t, "one of both is 0", swaysTold(impl.SwaysAt(least, -1)), complexText(0)+","+complexText(-1))
	want(t, "it is not less than 0", impl.IsSteady(least, -1), false)
	// Below a share of about 0.0385, the points aside are steady.
	for _, share := range append(ordinaryShares(), 0.0388, 0.0382, 0.03) {
		points, _ := impl.PointsOf(share)
		for i, at := range points {
			want(t, fmt.Sprint("the point ", i, " of ", share), impl.IsSteady(share, at), i > 2 && share < 0.0385)
		}
	}
}

func TestShipsRestAtPointsOfRest(t *testing.T) {
	for _, share := range ordinaryShares() {
		points, ok := impl.PointsOf(share)
		want(t, "points", ok, true)
		for i, at := range points {
			what := fmt.Sprint("the share ", share, ", the point ", i)
			ship := impl.Ship{At: at}
			push, ok := impl.PushOn(share, ship)
			want(t, what+", the push", ok && impl.LongOf(push) < 1e-5, true)
			for _, tick := range []float32{0.015, -0.015} {
				run, ok := impl.RunShip(share, ship, tick, impl.MaxRun)
				want(t, what, ok && impl.LongOf(run.At-at) < 3e-5 && impl.LongOf(run.Speed) < 1e-4, true)
			}
		}
	}
}

func TestShipsStayNearSteadyPoints(t *testing.T) {
	points, _ := impl.PointsOf(0.01215)
	for _, at := range points {
		ship := impl.Ship{At: at + complex(0.001, 0.001)}
		far := float32(0)
		for range 10 {
			trace, ok := impl.TraceShip(0.01215, ship, 0.05, impl.MaxRun)
			want(t, "a flight", ok, true)
			for _, place := range trace {
				far = max(far, impl.LongOf(place-at))
			}
			ship, _ = impl.RunShip(0.01215, ship, 0.05, impl.MaxRun)
		}
		want(t, fmt.Sprint("a flight near ", at), far < 0.05, impl.IsSteady(0.01215, at))
	}
}
