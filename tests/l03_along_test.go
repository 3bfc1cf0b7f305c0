package tests

import (
	"fmt"
	"math"
	"testing"

	"loop.example/g01284/impl"
)

func TestEllipsesComeBackBehindTheirPeriods(t *testing.T) {
	for i, o := range append(append(ordinaryOrbits(), circlesAndPlanes()...), orbits()[:7]...) {
		if o.Long < 0 {
			continue
		}
		for _, mass := range []float32{1, 0.02, 900} {
			what := fmt.Sprint("orbit ", i, ", the mass ", mass)
			period, ok := impl.PeriodOf(o, mass)
			want(t, what, ok, true)
			at, speed, _ := impl.StateOf(o, mass)
			for _, time := range []float32{period, -period, 2 * period} {
				later, ok := impl.LaterOrbit(o, mass, time)
				want(t, what, ok && turnsApart(later.Phase, o.Phase) < 1e-6, true)
				want(t, what+", all but Phase", orbitText(changedOrbit(later, phaseField, o.Phase)), orbitText(o))
				place, way, ok := impl.StateOf(later, mass)
				want(t, what, ok, true)
				wantNearState(t, what, place, way, at, speed, 1e-4)
			}
			half, _ := impl.LaterOrbit(o, mass, period/2)
			want(t, what+", half of it", near(turnsApart(half.Phase, o.Phase), 0.5, 1e-6), true)
		}
	}
}

func TestLaterOrbitIsWherePullsLead(t *testing.T) {
	for i, o := range ordinaryOrbits() {
		rate, ok := impl.RateOf(o, 2)
		want(t, fmt.Sprint("orbit ", i), ok, true)
		tick := 0.005 / rate
		before, _ := impl.LaterOrbit(o, 2, -tick)
		behind, _ := impl.LaterOrbit(o, 2, tick)
		from, _, _ := impl.StateOf(before, 2)
		at, speed, _ := impl.StateOf(o, 2)
		to, _, _ := impl.StateOf(behind, 2)
		way := impl.ScaleVector(impl.LessVectors(to, from), 0.5/tick)
		wantNearState(t, fmt.Sprint("orbit ", i), at, way, at, speed, 0.02)
		toward, ok := impl.SpeedAt(o, 2, impl.SizeOfVector(at))
		want(t, fmt.Sprint("how fast on orbit ", i), ok && near(float64(toward/impl.SizeOfVector(speed)), 1, 1e-5), true)
		turning, ok := impl.TurningOfOrbit(o, 2)
		want(t, fmt.Sprint("turning on orbit ", i), ok && near(float64(turning/impl.SizeOfVector(impl.CrossOf(at, speed))), 1, 1e-5), true)
	}
}

func TestLaterOrbitWrapsPhases(t *testing.T) {
	less, belowOne := number(minusZero), number(oneBits-1)
	for what, row := range map[string]struct {
		phase, time float32
		later       uint32
	}{
		"no time":                 {0.7, 0, bitsOf(0.7)},
		"a time of -0":            {0, less, plusZero},
		"-0, and a time of 0":     {less, 0, plusZero},
		"both -0":                 {less, less, minusZero},
		"just before 0":           {0, -1e-20, plusZero},
		"the least time before 0": {0, -number(leastBits), plusZero},
		"just below 1":            {belowOne, 1e-8, bitsOf(belowOne)},
		"narrowed to 1":           {belowOne, 2.4e-7, plusZero},
		"a little before 0":       {0, -1e-6, 0x3f7ffffd},
		"the greatest time":       {0.3, number(mostBits), plusZero},
		"the greatest time back":  {0.3, -number(mostBits), plusZero},
		"a phase of -0":           {less, number(leastBits), plusZero},
	} {
		later, ok := impl.LaterOrbit(impl.Orbit{Long: 1, Phase: row.phase}, 1, row.time)
		want(t, what, orbitTold(later, ok), orbitText(impl.Orbit{Long: 1, Phase: number(row.later)}))
	}
	for _, time := range wrongNumbers() {
		want(t, fmt.Sprint("ellipse, the time ", time), orbitTold(impl.LaterOrbit(anEllipse(), 1, time)), "fail")
		want(t, fmt.Sprint("branch, the time ", time), orbitTold(impl.LaterOrbit(aBranch(), 1, time)), "fail")
	}
}

func TestLaterBranchesAreNotWrapped(t *testing.T) {
	above := number(0x41800001)
	for _, sign := range []float32{1, -1} {
		for what, row := range map[string]struct {
			phase, time float32
			later       float32
		}{
			"no time":              {3.5, 0, 3.5},
			"through 0":            {-1, 12.566371, 1},
			"to 16":                {15, 6.2831855, 16},
			"beyond 16":            {15, 6.2832, above},
			"nearly 16":            {15.999999, 0, 15.999999},
			"at 16, for no time":   {16, 0, 16},
			"narrowed to 16":       {16, 1e-6, 16},
			"at 16, for some time": {16, 1e-5, above},
			"back from 16":         {16, -201.06193, -16},
		} {
			o := impl.Orbit{Long: -1, Round: 3, Phase: sign * row.phase}
			told := "fail" // where it comes to above
			if row.later != above {
				told = orbitText(changedOrbit(o, phaseField, sign*row.later))
			}
			want(t, fmt.Sprint(what, ", ", sign), orbitTold(impl.LaterOrbit(o, 1, sign*row.time)), told)
		}
		want(t, "the greatest time", orbitTold(impl.LaterOrbit(aBranch(), 1, sign*number(mostBits))), "fail")
	}
	less := number(minusZero)
	zero := impl.Orbit{Long: -1, Round: 3, Phase: less}
	want(t, "-0", orbitTold(impl.LaterOrbit(zero, 1, less)), orbitText(zero))
}

func TestRatesAndPeriods(t *testing.T) {
	want(t, "rate", numberTold(impl.RateOf(impl.Orbit{Long: 4, Round: 0.5}, 16)), numberText(0.5))
	want(t, "rate of a branch", numberTold(impl.RateOf(impl.Orbit{Long: -4, Round: 2}, 16)), numberText(0.5))
	want(t, "period", numberTold(impl.PeriodOf(impl.Orbit{Long: 4, Round: 0.5}, 16)), numberText(12.566371))
	small, wide := impl.Orbit{Long: number(leastBits)}, impl.Orbit{Long: number(mostBits)}
	want(t, "an infinite rate", numberTold(impl.RateOf(small, 1)), "fail")
	want(t, "a period of 0", numberTold(impl.PeriodOf(small, 1)), numberText(0))
	want(t, "a rate of 0", numberTold(impl.RateOf(wide, 1)), numberText(0))
	want(t, "an infinite period", numberTold(impl.PeriodOf(wide, 1)), "fail")
	want(t, "the least mass", numberTold(impl.RateOf(impl.Orbit{Long: 0x1p-50}, 0x1p-148)), numberText(2))
	want(t, "the greatest mass", numberTold(impl.RateOf(impl.Orbit{Long: 0x1p40}, 0x1p126)), numberText(8))
}

func TestDistances(t *testing.T) {
	ellipse, branch := impl.Orbit{Long: 2, Round: 0.5, Phase: 0.3}, impl.Orbit{Long: -2, Round: 3, Phase: 5}
	want(t, "near", numberTold(impl.NearOf(ellipse)), numberText(1))
	want(t, "far", numberTold(impl.FarOf(ellipse)), numberText(3))
	want(t, "beside", numberTold(impl.BesideOf(ellipse)), numberText(1.5))
	want(t, "near, branch", numberTold(impl.NearOf(branch)), numberText(4))
	want(t, "far, branch", numberTold(impl.FarOf(branch)), "fail")
	want(t, "beside, branch", numberTold(impl.BesideOf(branch)), numberText(16))
	most := number(mostBits)
	wide, wild := impl.Orbit{Long: most, Round: 0.5}, impl.Orbit{Long: -most, Round: 3}
	want(t, "far, the greatest Long", numberTold(impl.FarOf(wide)), "fail")
	want(t, "far, a circle of the greatest Long", numberTold(impl.FarOf(impl.Orbit{Long: most})), numberText(most))
	want(t, "near, the greatest Long", numberTold(impl.NearOf(wide)), numberText(most/2))
	want(t, "near, not finite", numberTold(impl.NearOf(wild)), "fail")
	want(t, "beside, not finite", numberTold(impl.BesideOf(wild)), "fail")
	least, belowOne := number(leastBits), number(oneBits-1)
	want(t, "near, the least Long", numberTold(impl.NearOf(impl.Orbit{Long: least, Round: 0.9})), numberText(0))
	want(t, "near, the greatest Round", numberTold(impl.NearOf(impl.Orbit{Long: 1, Round: belowOne})), numberText(0x1p-24))
	want(t, "near, the least Round of a branch", numberTold(impl.NearOf(impl.Orbit{Long: -1, Round: number(oneBits + 1)})), numberText(0x1p-23))
	want(t, "near, both greatest", numberTold(impl.NearOf(impl.Orbit{Long: -least, Round: most})), numberText(float32(float64(least)*float64(most))))
}

func TestSpeedAt(t *testing.T) {
	circle, branch := impl.Orbit{Long: 4}, impl.Orbit{Long: -4, Round: 2}
	want(t, "on a circle", numberTold(impl.SpeedAt(circle, 16, 4)), numberText(2))
	want(t, "where an ellipse rests", numberTold(impl.SpeedAt(circle, 16, 8)), numberText(0))
	want(t, "farther", numberTold(impl.SpeedAt(circle, 16, number(0x41000001))), "fail")
	want(t, "much farther", numberTold(impl.SpeedAt(circle, 16, 1e30)), "fail")
	want(t, "a branch", numberTold(impl.SpeedAt(branch, 4, 2.6666667)), numberText(2))
	want(t, "a branch far away", numberTold(impl.SpeedAt(branch, 16, number(mostBits))), numberText(2))
	want(t, "not finite", numberTold(impl.SpeedAt(circle, 3e38, number(leastBits))), "fail")
	want(t, "the least distance", numberTold(impl.SpeedAt(circle, 1, 0x1p-147)), numberText(0x1p74))
	for _, distance := range wrongMasses() {
		want(t, fmt.Sprint("the distance ", distance), numberTold(impl.SpeedAt(circle, 16, distance)), "fail")
		want(t, fmt.Sprint("a branch, the distance ", distance), numberTold(impl.SpeedAt(branch, 16, distance)), "fail")
	}
}

func TestEnergyAndTurningOfOrbits(t *testing.T) {
	least, most := number(leastBits), number(mostBits)
	want(t, "energy", numberTold(impl.EnergyOfOrbit(impl.Orbit{Long: 2, Round: 0.5}, 4)), numberText(-1))
	want(t, "energy of a branch", numberTold(impl.EnergyOfOrbit(impl.Orbit{Long: -2, Round: 3}, 4)), numberText(1))
	want(t, "energy, not finite", numberTold(impl.EnergyOfOrbit(impl.Orbit{Long: 0.25}, most)), "fail")
	want(t, "energy, finite", numberTold(impl.EnergyOfOrbit(impl.Orbit{Long: 0.5}, most)), numberText(-most))
	want(t, "energy of -0", numberTold(impl.EnergyOfOrbit(impl.Orbit{Long: most}, least)), numberText(number(minusZero)))
	want(t, "energy of 0", numberTold(impl.EnergyOfOrbit(impl.Orbit{Long: -most, Round: 2}, least)), numberText(0))
	want(t, "turning", numberTold(impl.TurningOfOrbit(impl.Orbit{Long: 2, Round: 0.5}, 6)), numberText(3))
	want(t, "turning of a branch", numberTold(impl.TurningOfOrbit(impl.Orbit{Long: -2, Round: 3}, 4)), numberText(8))
	want(t, "turning, not finite", numberTold(impl.TurningOfOrbit(impl.Orbit{Long: -1, Round: most}, most)), "fail")
	want(t, "turning, beside is not finite", numberTold(impl.TurningOfOrbit(impl.Orbit{Long: -1, Round: 0x1p100}, 0x1p-100)), numberText(0x1p50))
	want(t, "turning, beside is nearly 0", numberTold(impl.TurningOfOrbit(impl.Orbit{Long: least}, 0x1p127)), numberText(0x1p-11))
}

func TestPlacesOf(t *testing.T) {
	want(t, "MaxPlaces", impl.MaxPlaces, 64)
	o := anEllipse()
	for count := int64(1); count <= impl.MaxPlaces; count++ {
		var list []impl.Vector
		for k := range count {
			at, _, ok := impl.StateOf(changedOrbit(o, phaseField, float32(k)/float32(count)), 1.7)
			want(t, "state", ok, true)
			list = append(list, at)
		}
		want(t, fmt.Sprint(count, " places"), vectorsTold(impl.PlacesOf(o, 1.7, count)), vectorsTold(list, true))
	}
	want(t, "the Phase does not matter", vectorsTold(impl.PlacesOf(changedOrbit(o, phaseField, 0), 1.7, 9)), vectorsTold(impl.PlacesOf(o, 1.7, 9)))
	for _, count := range []int64{-1 << 63, -1, 0, impl.MaxPlaces + 1, 1 << 32, 1<<63 - 1} {
		want(t, fmt.Sprint(count, " places"), vectorsTold(impl.PlacesOf(o, 1, count)), "fail")
		want(t, fmt.Sprint("nearest of ", count), nearestTold(impl.NearestOrbits(o, o, 1, count)), "fail")
	}
}

func TestTiltBetween(t *testing.T) {
	flat, less := impl.Orbit{Long: 1}, number(minusZero)
	for _, row := range []struct{ tilt, between float64 }{{0, 0}, {0.25, 0.25}, {0.5, 0.5}, {0.125, 0.125}, {0.3, 0.3}} {
		for _, node := range []float32{0, 0.25, 0.6} {
			other := impl.Orbit{Long: -3, Round: 2, Tilt: float32(row.tilt), Node: node, Peri: 0.7}
			tilt, ok := impl.TiltBetween(flat, other)
			want(t, fmt.Sprint("the Tilt ", row.tilt), ok && near(float64(tilt), row.between, 1e-7), true)
		}
	}
	for i, o := range append(ordinaryOrbits(), orbits()...) {
		want(t, fmt.Sprint("the same orbit ", i), numberTold(impl.TiltBetween(o, o)), numberText(0))
	}
	a, b := impl.Orbit{Long: 1, Tilt: 0.25, Node: 0.1}, impl.Orbit{Long: 1, Tilt: 0.25, Node: 0.4}
	tilt, ok := impl.TiltBetween(a, b)
	want(t, "upright ones", ok && near(float64(tilt), 0.3, 1e-7), true)
	b.Node = 0.6
	tilt, ok = impl.TiltBetween(a, b)
	want(t, "opposite ones", ok && near(float64(tilt), 0.5, 1e-7), true)
	want(t, "-0", numberTold(impl.TiltBetween(impl.Orbit{Long: 1, Tilt: less, Node: less}, flat)), numberText(0))
}

func TestNearestOrbitsTriesAllPlaces(t *testing.T) {
	crossing := impl.Orbit{Long: 1, Tilt: 0.25}
	list := []impl.Orbit{{Long: 1}, {Long: 2}, crossing, {Long: 1, Peri: 0.5}, {Long: 1, Tilt: 0.5}, anEllipse(), {Long: 2, Round: 0.5}}
	for i, a := range list {
		for k, b := range list {
			for _, count := range []int64{1, 2, 3, 4, 8, impl.MaxPlaces} {
				first, second, least := 0, 0, math.Inf(1)
				here, _ := impl.PlacesOf(a, 3, count)
				there, _ := impl.PlacesOf(b, 3, count)
				for n, from := range here {
					for m, to := range there {
						if d := float64(impl.SizeOfVector(impl.LessVectors(to, from))); d < least {
							first, second, least = n, m, d
						}
					}
				}
				want(t, fmt.Sprint("orbits ", i, " and ", k, ", places ", count), nearestTold(impl.NearestOrbits(a, b, 3, count)),
					nearestTold(int64(first), int64(second), float32(least), true))
			}
		}
	}
}

func TestNearestOrbitsOfSeveral(t *testing.T) {
	wide := impl.Orbit{Long: 1e20}
	want(t, "the same orbit", nearestTold(impl.NearestOrbits(anEllipse(), anEllipse(), 1, 5)), nearestTold(0, 0, 0, true))
	i, k, distance, ok := impl.NearestOrbits(wide, impl.Orbit{Long: 3e20}, 1, 4)
	want(t, "all distances are infinite", ok, false)
	want(t, "what is told then", nearestTold(i, k, distance, true), nearestTold(0, 0, 0, true))
	i, k, distance, ok = impl.NearestOrbits(wide, impl.Orbit{Long: 1e20, Peri: 0.5}, 1, 2)
	want(t, "some of them are", nearestTold(i, k, 0, ok), nearestTold(0, 1, 0, true))
	want(t, "how near they are", impl.IsFinite(distance), true)
	dots := impl.Orbit{Long: number(leastBits)}
	want(t, "all distances are 0", nearestTold(impl.NearestOrbits(dots, dots, 1, 3)), nearestTold(0, 0, 0, true))
	want(t, "the second one less the first one", nearestTold(impl.NearestOrbits(impl.Orbit{Long: 1}, impl.Orbit{Long: 3}, 1, 1)), nearestTold(0, 0, 2, true))
}
