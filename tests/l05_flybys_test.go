package tests

import (
	"fmt"
	"math"
	"testing"

	"loop.example/g01284/impl"
)

func TestNumbersOfFlybys(t *testing.T) {
	speed, planet := complex64(complex(1, 0.5)), complex64(complex(-0.3, 2))
	for _, a := range []arguments{
		{"FlybyTurn", impl.FlybyTurn, numbersOf(2, 3, 4), []int{0, 1, 2}, nil},
		{"FlybySpeed", impl.FlybySpeed, []any{float32(2), speed, planet, float32(3), true}, []int{0, 3}, nil},
		{"NearestFor", impl.NearestFor, numbersOf(2, 3, 0.25), []int{0, 1, 2}, nil},
		{"AimOf", impl.AimOf, numbersOf(2, 3, 4), []int{0, 1, 2}, nil},
	} {
		a.wantFailingNumbers(t)
	}
	list := []any{float32(2), speed, planet, float32(3), true}
	wantFailing(t, "FlybySpeed", impl.FlybySpeed, list, 1, append(wrongPoints(), planet))
	wantFailing(t, "FlybySpeed", impl.FlybySpeed, list, 2, append(wrongPoints(), speed))
}

func flybyRows() []flyby {
	var list []flyby
	for _, mass := range []float32{1, 0.02, 300} {
		for _, near := range []float32{0.1, 2, 90} {
			for _, left := range []bool{false, true} {
				list = append(list,
					flyby{mass: mass, speed: 1, near: near, left: left}, flyby{mass: mass, speed: complex(-0.5, 0.2), planet: complex(0.3, -1), near: near, left: left},
					flyby{mass: mass, speed: complex(2, -3), planet: complex(-1, -1), near: near, left: left}, flyby{mass: mass, speed: 0, planet: complex(0, 0.7), near: near, left: left},
				)
			}
		}
	}
	return list
}

// TestFlybysTurnSpeeds has promise 6: how fast a ship is, seen from the planet,
// does not change, and its way is turned.
func TestFlybysTurnSpeeds(t *testing.T) {
	for i, c := range flybyRows() {
		what := fmt.Sprint("flyby ", i)
		before := c.speed - c.planet
		behind, ok := impl.FlybySpeed(c.mass, c.speed, c.planet, c.near, c.left)
		turn, fits := impl.FlybyTurn(c.mass, impl.LongOf(before), c.near)
		want(t, what, ok && fits && turn > 0 && turn < 0.5, true)
		fast, slow := float64(impl.LongOf(behind-c.planet)), float64(impl.LongOf(before))
		want(t, what+", how fast", near(fast, slow, 1e-6*float64(impl.LongOf(c.speed)+impl.LongOf(c.planet)+1)), true)
		goal := impl.AngleOf(before) + turn
		if !c.left {
			goal = impl.AngleOf(before) - turn
		}
		want(t, what+", the way", turnsApart(impl.AngleOf(behind-c.planet), goal) < 1e-6, true)
	}
}

func TestFlybysToBothSides(t *testing.T) {
	for i, c := range flybyRows() {
		here, ok := impl.FlybySpeed(c.mass, c.speed, c.planet, c.near, true)
		there, fits := impl.FlybySpeed(c.mass, impl.ConjugateOf(c.speed), impl.ConjugateOf(c.planet), c.near, false)
		want(t, fmt.Sprint("flyby ", i), ok && fits && impl.LongOf(here-impl.ConjugateOf(there)) < 4e-7*(impl.LongOf(c.speed)+impl.LongOf(c.planet)), true)
	}
}

func TestFlybyTurnsByLess(t *testing.T) {
	last := float32(0.5)
	for _, distance := range []float32{1e-7, 0.001, 0.1, 1, 2, 10, 1e4, 1e8} {
		turn, ok := impl.FlybyTurn(2, 0.7, distance)
		want(t, fmt.Sprint("near ", distance), ok && turn < last && turn > 0, true)
		last = turn
	}
	most, least := number(mostBits), number(leastBits)
	want(t, "at the planet", numberTold(impl.FlybyTurn(1, 1, least)), numberText(0.5))
	want(t, "too far to turn", numberTold(impl.FlybyTurn(1, 1e20, 1e20)), numberText(0))
	want(t, "the square of e is not finite", numberTold(impl.FlybyTurn(least, most, most)), "fail")
	_, ok := impl.FlybyTurn(1, most, most)
	want(t, "it is finite", ok, true)
}

func TestFlybySpeedsOfOddNumbers(t *testing.T) {
	most, least := number(mostBits), number(leastBits)
	want(t, "the speed of the planet", pointTold(impl.FlybySpeed(1, complex(0, number(minusZero)), 0, 1, true)), "fail")
	want(t, "a speed that is not finite far away", pointTold(impl.FlybySpeed(1, complex(most, 0), complex(-most, 0), 1, true)), "fail")
	want(t, "a length that is not finite", pointTold(impl.FlybySpeed(1, complex(most, most), 0, 1, true)), "fail")
	want(t, "the square of e is not finite", pointTold(impl.FlybySpeed(least, complex(most, 0), 0, most, true)), "fail")
	want(t, "a speed behind that is not finite", pointTold(impl.FlybySpeed(most, complex(0, 0x1p126), complex(0x1p127, 0x1p127), least, true)), "fail")
	want(t, "no turn", pointTold(impl.FlybySpeed(1, complex(1e20, 0), 0, 1e20, true)), pointTold(complex(1e20, 0), true))
	want(t, "half a turn", pointTold(impl.FlybySpeed(1, complex(least, -least), 0, 1, true)), pointTold(complex(-least, least), true))
	want(t, "half a turn of a planet that moves", pointTold(impl.FlybySpeed(0x1p120, 2, 1, 0x1p-120, false)), pointTold(0, true))
}

func TestNearestFor(t *testing.T) {
	for _, mass := range []float32{1, 40, 1e-5} {
		for _, speed := range []float32{1, 0.2, 70} {
			for _, turns := range []float32{0.01, 0.1, 0.16666667, 0.25, 0.4, 0.45} {
				what := fmt.Sprint("the mass ", mass, ", the speed ", speed, ", turns ", turns)
				distance, ok := impl.NearestFor(mass, speed, turns)
				turn, fits := impl.FlybyTurn(mass, speed, distance)
				want(t, what, ok && fits && near(float64(turn), float64(turns), 1e-6), true)
			}
		}
	}
	half := number(0x3effffff)
	distance, ok := impl.NearestFor(1, 1, half)
	want(t, "just less than half a turn", ok && near(float64(distance), 0, 1e-12), true)
	for _, turns := range []float32{0.5, number(0x3f000001), 0.75, 1, number(mostBits), -0.25, -0.1} {
		want(t, fmt.Sprint("turns ", turns), numberTold(impl.NearestFor(1, 1, turns)), "fail")
	}
	want(t, "the least turn", numberTold(impl.NearestFor(1, 1, number(leastBits))), "fail")
	_, ok = impl.NearestFor(1e-30, 1, number(leastBits))
	want(t, "the least turn of a small mass", ok, true)
}

// TestAimOf keeps what the way far away and the nearest place make with the
// speeds there.
func TestAimOf(t *testing.T) {
	for _, mass := range []float32{1, 40, 1e-5} {
		for _, speed := range []float32{1, 0.2, 70} {
			for _, distance := range []float32{0.01, 1, 3e4} {
				aim, ok := impl.AimOf(mass, speed, distance)
				there := math.Sqrt(float64(speed)*float64(speed) + 2*float64(mass)/float64(distance))
				kept := float64(distance) * there
				want(t, fmt.Sprint("the mass ", mass, ", the speed ", speed, ", near ", distance), ok && near(float64(aim)*float64(speed), kept, 1e-6*kept), true)
			}
		}
	}
	most, least := number(mostBits), number(leastBits)
	want(t, "exact", numberTold(impl.AimOf(4, 1, 1)), numberText(3))
	want(t, "past no mass", numberTold(impl.AimOf(least, 1, 1)), numberText(1))
	want(t, "an aim that is not finite", numberTold(impl.AimOf(most, least, most)), "fail")
	want(t, "the greatest aim", numberTold(impl.AimOf(1, 1, most)), numberText(most))
}
