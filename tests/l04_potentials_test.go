package tests

import (
	"fmt"
	"testing"

	"loop.example/g01284/impl"
)

// zeros has both of them.
func zeros() []float32 { return []float32{0, number(minusZero)} }

// wrongShares are no shares.
func wrongShares() []float32 {
	return append(wrongNumbers(), 0, number(minusZero), -number(leastBits), -0.3, number(0x3f000001), 0.75, 1, number(mostBits))
}

// wrongPoints are not finite.
func wrongPoints() []complex64 {
	var list []complex64
	for _, x := range wrongNumbers() {
		list = append(list, complex(x, 0.5), complex(0.5, x), complex(x, x))
	}
	return list
}

func wrongShips() []impl.Ship {
	var list []impl.Ship
	for _, x := range wrongPoints() {
		list = append(list, impl.Ship{At: x, Speed: 1}, impl.Ship{At: complex(0.2, 0.9), Speed: x})
	}
	return list
}

// framesTold tells what functions of a share and a point tell.
func framesTold(share float32, at complex64) map[string]string {
	return map[string]string{
		"PotentialAt": numberTold(impl.PotentialAt(share, at)), "SlopeAt": pointTold(impl.SlopeAt(share, at)),
		"BendsAt": bendsTold(impl.BendsAt(share, at)), "SwaysAt": swaysTold(impl.SwaysAt(share, at)),
		"SpeedFor": numberTold(impl.SpeedFor(share, at, -number(mostBits))),
	}
}

func TestExamplesOfChapter4(t *testing.T) {
	want(t, "the masses", placesTold(impl.MassesAt(0.5)), numberText(-0.5)+","+numberText(0.5))
	points, ok := impl.PointsOf(0.5)
	want(t, "the first point of rest", ok && near(float64(real(points[0])), 0, 1e-6) && imag(points[0]) == 0, true)
	want(t, "the potential at 0", numberTold(impl.PotentialAt(0.5, 0)), numberText(2))
	want(t, "the slope at 0", pointTold(impl.SlopeAt(0.5, 0)), complexText(0))
}

func TestIsShare(t *testing.T) {
	for _, share := range []float32{number(leastBits), number(subnormal), number(leastNorm), 1e-20, 0.01215, 0.25, number(0x3effffff), 0.5} {
		want(t, fmt.Sprint("the share ", share), impl.IsShare(share), true)
	}
	for _, share := range wrongShares() {
		want(t, fmt.Sprint("no share ", share), impl.IsShare(share), false)
	}
}

func TestValidShip(t *testing.T) {
	least, most, less := number(leastBits), number(mostBits), number(minusZero)
	for _, s := range []impl.Ship{{}, shipOf(less, 0, 0, less), shipOf(most, -most, -most, most), shipOf(least, -least, 1, -1), shipOf(0.5, 0, 0, 0)} {
		want(t, fmt.Sprint("the ship ", s), impl.ValidShip(s), true)
	}
	for _, s := range wrongShips() {
		want(t, fmt.Sprint("no ship ", s), impl.ValidShip(s), false)
	}
}

func TestSameShip(t *testing.T) {
	nan, less, inf := number(nanBits), number(minusZero), number(infBits)
	s := shipOf(1, less, nan, inf)
	want(t, "itself", impl.SameShip(s, s), true)
	want(t, "another not-a-number", impl.SameShip(s, shipOf(1, less, number(0xff812345), inf)), true)
	want(t, "no numbers", impl.SameShip(impl.Ship{}, impl.Ship{}), true)
	for i, other := range []impl.Ship{
		shipOf(-1, less, nan, inf), shipOf(1, 0, nan, inf), shipOf(1, less, inf, inf), shipOf(1, less, nan, number(lessInf)),
		shipOf(nan, less, 1, inf), shipOf(less, 1, nan, inf), {},
	} {
		want(t, fmt.Sprint("another ship ", i), impl.SameShip(s, other) || impl.SameShip(other, s), false)
	}
	want(t, "zeros", impl.SameShip(shipOf(0, 0, 0, 0), shipOf(0, 0, 0, less)), false)
}

func TestMassesAt(t *testing.T) {
	for _, row := range [][3]uint32{
		{bitsOf(0.25), bitsOf(-0.25), bitsOf(0.75)}, {leastBits, minusZero | leastBits, oneBits},
		{bitsOf(0x1p-24), minusZero | bitsOf(0x1p-24), oneBits - 1}, {bitsOf(0x1p-25), minusZero | bitsOf(0x1p-25), oneBits},
	} {
		want(t, fmt.Sprintf("of %08x", row[0]), placesTold(impl.MassesAt(number(row[0]))), fmt.Sprintf("%08x,%08x", row[1], row[2]))
	}
	for _, share := range wrongShares() {
		want(t, fmt.Sprint("no share ", share), placesTold(impl.MassesAt(share)), "fail")
	}
}

func TestPotentialsOnTheAxis(t *testing.T) {
	less := number(minusZero)
	for _, row := range []struct {
		share, x, potential, slope, xx, yy float32
	}{
		{0.5, 1.5, 1.875, 0.875, 2.125, 0.4375},
		{0.5, -1.5, 1.875, -0.875, 2.125, 0.4375},
		{0.25, 1.75, 2.15625, 1.3125, 1.6875, 0.65625},
		{0.5, 0, 2, 0, 17, -7},
		{0.5, less, 2, 0, 17, -7},
	} {
		for _, y := range zeros() {
			at, what := complex(row.x, y), fmt.Sprint(row.share, " at ", row.x, y)
			// Of the parts of xy, that of 0 and a number less than 0 is -0.
			xy := less
			if bitsOf(y) == plusZero && row.x > -0.5 || bitsOf(y) == minusZero && row.x < -0.5 || row.x == 0 {
				xy = 0
			}
			want(t, "potential of "+what, numberTold(impl.PotentialAt(row.share, at)), numberText(row.potential))
			want(t, "slope of "+what, pointTold(impl.SlopeAt(row.share, at)), complexText(complex(row.slope, 0)))
			want(t, "bends of "+what, bendsTold(impl.BendsAt(row.share, at)), vectorText(vectorOf(row.xx, xy, row.yy)))
		}
	}
}

func TestPlacesOfTheMasses(t *testing.T) {
	for _, share := range []float32{0.5, 0.3, 0.01215, 1e-20, number(leastBits)} {
		greater, lesser, _ := impl.MassesAt(share)
		for _, x := range []float32{greater, lesser} {
			for _, y := range zeros() {
				at := complex(x, y)
				for what, told := range framesTold(share, at) {
					want(t, fmt.Sprint(what, " of ", share, " at ", at), told, "fail")
				}
				s := impl.Ship{At: at}
				want(t, fmt.Sprint("no push at ", at), pointTold(impl.PushOn(share, s)), "fail")
				want(t, fmt.Sprint("no constant at ", at), numberTold(impl.ConstantOf(share, s)), "fail")
				want(t, fmt.Sprint("not steady at ", at), impl.IsSteady(share, at), false)
				want(t, fmt.Sprint("no step at ", at), shipTold(impl.StepShip(share, s, 0)), "fail")
				want(t, fmt.Sprint("no steps at ", at), shipTold(impl.RunShip(share, s, 1, 0)), shipText(s))
			}
		}
	}
}

func TestPotentialsOfTheLeastShares(t *testing.T) {
	least := number(leastBits)
	for _, x := range []float32{0, least, -least, -3 * least, number(minusZero)} {
		want(t, fmt.Sprint("too near to the greater mass ", x), numberTold(impl.PotentialAt(least, complex(x, 0))), "fail")
	}
	want(t, "near to the lesser mass", numberTold(impl.PotentialAt(least, complex(number(oneBits+1), 0))), numberText(1.5))
	want(t, "above the lesser mass", numberTold(impl.PotentialAt(least, complex(1, least))), numberText(2.5))
	want(t, "the cube of the distance is 0", pointTold(impl.SlopeAt(least, complex(1, least))), "fail")
	// Twice the potential is not finite, but the potential is.
	low := float32(0x1p-127)
	want(t, "a great potential", numberTold(impl.PotentialAt(low, 0)), numberText(0x1p127))
	want(t, "twice as much", numberTold(impl.ConstantOf(low, impl.Ship{})), "fail")
	want(t, "no speed for it", numberTold(impl.SpeedFor(low, 0, number(mostBits))), "fail")
	want(t, "a greater potential", numberTold(impl.PotentialAt(low/2, 0)), "fail")
}

func TestPotentialsFarAway(t *testing.T) {
	most := number(mostBits)
	for _, at := range []complex64{complex(0x1p64, 0), complex(1, -0x1p70), complex(most, most)} {
		want(t, fmt.Sprint("the power is not finite at ", at), numberTold(impl.PotentialAt(0.3, at)), "fail")
		want(t, fmt.Sprint("no pull at ", at), pointTold(impl.SlopeAt(0.3, at)), complexText(at))
		want(t, fmt.Sprint("no bend at ", at), bendsTold(impl.BendsAt(0.3, at))[:8], numberText(1))
		want(t, fmt.Sprint("no sway at ", at), swaysTold(impl.SwaysAt(0.3, at)), complexText(-1)+","+complexText(-1))
		want(t, fmt.Sprint("steady at ", at), impl.IsSteady(0.3, at), true)
	}
	want(t, "half of the power", numberTold(impl.PotentialAt(0.5, complex(0x1p63, 0))), numberText(0x1p125))
	want(t, "no constant where the power is not finite", numberTold(impl.ConstantOf(0.5, shipOf(0, 1, 0x1p64, 0))), "fail")
}

func TestPushOn(t *testing.T) {
	for _, row := range []struct {
		right, up float32
		push      complex64
	}{
		{0, 0, complex(0.875, 0)}, {1, 0, complex(0.875, -2)}, {0, 1, complex(2.875, 0)}, {-0.5, -3, complex(-5.125, 1)},
		{number(subnormal), number(leastBits), complex(0.875, -2*number(subnormal))}, {0x1p126, 0x1p126, complex(0x1p127, -0x1p127)},
	} {
		want(t, fmt.Sprint(row.right, row.up), pointTold(impl.PushOn(0.5, shipOf(1.5, 0, row.right, row.up))), complexText(row.push))
	}
	want(t, "not finite along", pointTold(impl.PushOn(0.5, shipOf(1.5, 0, 0, 0x1p127))), "fail")
	want(t, "not finite across", pointTold(impl.PushOn(0.5, shipOf(1.5, 0, -0x1p127, 0))), "fail")
	want(t, "both of 0", pointTold(impl.PushOn(0.5, shipOf(0, 0, 0, number(minusZero)))), complexText(0))
}

func TestConstantsAndSpeeds(t *testing.T) {
	want(t, "a constant", numberTold(impl.ConstantOf(0.5, shipOf(1.5, 0, 0.5, -1))), numberText(2.5))
	want(t, "a constant of 0", numberTold(impl.ConstantOf(0.5, shipOf(0, 0, 2, 0))), numberText(0))
	for _, row := range [][2]float32{{3.75, 0}, {2.75, 1}, {-0.25, 2}, {-5.25, 3}, {3.6875, 0.25}} {
		want(t, fmt.Sprint("the speed for ", row[0]), numberTold(impl.SpeedFor(0.5, 1.5, row[0])), numberText(row[1]))
	}
	most, justMore := number(mostBits), number(bitsOf(3.75)+1)
	want(t, "the constant is just too great", numberTold(impl.SpeedFor(0.5, 1.5, justMore)), "fail")
	want(t, "the constant is too great", numberTold(impl.SpeedFor(0.5, 1.5, most)), "fail")
	want(t, "the least constant", numberTold(impl.SpeedFor(0.5, 1.5, -most)), "5f7fffff")
	want(t, "their difference is not finite", numberTold(impl.SpeedFor(0.5, complex(0x1p63, 0), -most)), "fail")
	for _, x := range wrongNumbers() {
		want(t, fmt.Sprint("no constant ", x), numberTold(impl.SpeedFor(0.5, 1.5, x)), "fail")
	}
	for i, c := range scenes()[:15] {
		rest := impl.Ship{At: c.ship.At}
		twice, ok := impl.ConstantOf(c.share, rest)
		want(t, fmt.Sprint("scene ", i), ok, true)
		speed, ok := impl.SpeedFor(c.share, c.ship.At, twice-1)
		want(t, fmt.Sprint("a speed of 1 of scene ", i), ok && near(float64(speed), 1, 1e-5), true)
	}
}

// slopeNear tells the slope of what tell tells along one direction.
func slopeNear(tell func(complex64) float32, at, way complex64) float64 {
	ahead, behind := tell(at+way), tell(at-way)
	return (float64(ahead) - float64(behind)) / (2 * float64(impl.LongOf(way)))
}

func TestSlopesAndBendsAreThoseOfPotentials(t *testing.T) {
	const tiny = 1.0 / 128
	for i, c := range append(scenes()[:10], scenes()[11:13]...) {
		at := c.ship.At
		potential := func(at complex64) float32 { x, _ := impl.PotentialAt(c.share, at); return x }
		along := func(at complex64) float32 { x, _ := impl.SlopeAt(c.share, at); return real(x) }
		across := func(at complex64) float32 { x, _ := impl.SlopeAt(c.share, at); return imag(x) }
		slope, _ := impl.SlopeAt(c.share, at)
		xx, xy, yy, ok := impl.BendsAt(c.share, at)
		want(t, fmt.Sprint("scene ", i), ok, true)
		for what, pair := range map[string][2]float64{
			"slope along":        {slopeNear(potential, at, tiny), float64(real(slope))},
			"slope across":       {slopeNear(potential, at, complex(0, tiny)), float64(imag(slope))},
			"bend along":         {slopeNear(along, at, tiny), float64(xx)},
			"bend across":        {slopeNear(across, at, complex(0, tiny)), float64(yy)},
			"bend of both":       {slopeNear(along, at, complex(0, tiny)), float64(xy)},
			"bend of both again": {slopeNear(across, at, tiny), float64(xy)},
		} {
			if !near(pair[0], pair[1], 0.01+0.01*max(pair[1], -pair[1])) {
				t.Errorf("%s of scene %d: %v", what, i, pair)
			}
		}
	}
}

func TestPotentialsFailForWrongArguments(t *testing.T) {
	for _, share := range wrongShares() {
		for what, told := range framesTold(share, complex(0.3, 0.4)) {
			want(t, fmt.Sprint(what, " of ", share), told, "fail")
		}
		s := shipOf(0.3, 0.4, 0, 0)
		want(t, fmt.Sprint("push of ", share), pointTold(impl.PushOn(share, s)), "fail")
		want(t, fmt.Sprint("constant of ", share), numberTold(impl.ConstantOf(share, s)), "fail")
		want(t, fmt.Sprint("steady of ", share), impl.IsSteady(share, complex(0x1p70, 0)), false)
	}
	for _, at := range wrongPoints() {
		for what, told := range framesTold(0.3, at) {
			want(t, fmt.Sprint(what, " at ", at), told, "fail")
		}
		want(t, fmt.Sprint("steady at ", at), impl.IsSteady(0.3, at), false)
	}
	for _, s := range wrongShips() {
		want(t, fmt.Sprint("push on ", s), pointTold(impl.PushOn(0.3, s)), "fail")
		want(t, fmt.Sprint("constant of ", s), numberTold(impl.ConstantOf(0.3, s)), "fail")
	}
}
