package tests

import (
	"fmt"
	"math"
	"testing"

	"loop.example/g01284/impl"
)

func TestDriftsFailForWrongArguments(t *testing.T) {
	drifts := call{"DriftsOf", impl.DriftsOf, []any{aBall(), anEllipse(), float32(0.01)}}
	drift := call{"DriftOrbit", impl.DriftOrbit, []any{aBall(), anEllipse(), float32(0.01), float32(2)}}
	still := call{"StillLong", impl.StillLong, []any{aBall()}}
	thin := call{"ThinAt", impl.ThinAt, []any{aBall(), float32(2), float32(0.5), float32(0.3)}}
	sink := call{"SinkLong", impl.SinkLong, []any{aBall(), float32(2), float32(0.1), float32(0.3), float32(0.5), float32(0.7)}}
	run := call{"SinkRun", impl.SinkRun, append(append([]any(nil), sink.list...), int64(3))}
	none := call{"SinkRun, no steps", impl.SinkRun, append(append([]any(nil), sink.list...), int64(0))}
	for _, c := range []call{drifts, drift, still, thin, sink, run, none} {
		c.wantFailingTypes(t)
	}
	wantFailing(t, "DriftsOf", impl.DriftsOf, drifts.list, 1, []impl.Orbit{aBranch()})
	wantFailing(t, "DriftOrbit", impl.DriftOrbit, drift.list, 1, []impl.Orbit{aBranch()})
	less, scales := []float32{-number(leastBits), -1, -number(mostBits)}, wrongMasses()
	wantFailing(t, "ThinAt, base", impl.ThinAt, thin.list, 1, less)
	wantFailing(t, "ThinAt, scale", impl.ThinAt, thin.list, 2, scales)
	for _, c := range []call{sink, run, none} {
		wantFailing(t, c.name+", drag", c.f, c.list, 2, less)
		wantFailing(t, c.name+", base", c.f, c.list, 3, less)
		wantFailing(t, c.name+", scale", c.f, c.list, 4, scales)
		wantFailing(t, c.name+", tick", c.f, c.list, 5, less)
	}
	wantFailing(t, "SinkLong, at the ground and below", impl.SinkLong, sink.list, 1, []float32{0.8, number(bitsOf(0.8) - 1), 0, -3})
	wantFailing(t, "SinkRun, steps", impl.SinkRun, run.list, 6, append(wrongCounts(impl.MaxMarks), 1<<32))
}

// driftsNear tells the same as DriftsOf with 64-bit numbers.
func driftsNear(b impl.Ball, o impl.Orbit, bulge float32) (float64, float64) {
	a, e := float64(o.Long), float64(o.Round)
	n := math.Sqrt(float64(b.Mass) / (a * a * a))
	q := float64(b.Radius) / (a * (1 - e*e))
	c := math.Cos(2 * math.Pi * float64(o.Tilt))
	k := n * float64(bulge) * q * q / (2 * math.Pi)
	return -1.5 * k * c, 0.75 * k * (5*c*c - 1)
}

func ellipses() []impl.Orbit {
	var list []impl.Orbit
	for _, o := range append(append(ordinaryOrbits(), circlesAndPlanes()...), impl.Orbit{Long: 3}, impl.Orbit{Long: 0.7, Round: 0.2}) {
		if o.Long > 0 {
			list = append(list, o)
		}
	}
	return list
}

func TestDriftsOf(t *testing.T) {
	for i, o := range ellipses() {
		for k, b := range ordinaryBalls() {
			for _, bulge := range []float32{0.00108263, 1, -0.3} {
				node, peri, ok := impl.DriftsOf(b, o, bulge)
				goal, other := driftsNear(b, o, bulge)
				most := math.Abs(goal) + math.Abs(other)
				want(t, fmt.Sprint("orbit ", i, ", ball ", k, ", bulge ", bulge), ok && near(float64(node), goal, 2e-6*most) && near(float64(peri), other, 2e-6*most), true)
			}
		}
	}
	least, most, b := number(leastBits), number(mostBits), aBall()
	for _, bulge := range zeros() {
		node, peri, ok := impl.DriftsOf(b, anEllipse(), bulge)
		want(t, "no bulge", ok && node == 0 && peri == 0, true)
	}
	node, _, ok := impl.DriftsOf(b, impl.Orbit{Long: 2, Tilt: 0.25}, 0.1)
	want(t, "over the poles", ok && node == 0, true)
	back, _, _ := impl.DriftsOf(b, impl.Orbit{Long: 2, Tilt: 0.5}, 0.1)
	ahead, _, ok := impl.DriftsOf(b, impl.Orbit{Long: 2}, 0.1)
	want(t, "the other way around", ok && ahead < 0 && back == -ahead, true)
	want(t, "a bulge that is too great", twoTold(impl.DriftsOf(b, impl.Orbit{Long: 1e-5}, most)), "fail")
	want(t, "a rate that is not finite", twoTold(impl.DriftsOf(ballOf(1, least, 0, 0), impl.Orbit{Long: 1e-38}, 0)), "fail")
	want(t, "nothing beside", twoTold(impl.DriftsOf(ballOf(least, 1, 0, 0), impl.Orbit{Long: least, Round: 0.9}, 1)), "fail")
	want(t, "a quotient that is not finite", twoTold(impl.DriftsOf(ballOf(least, most, 0, 0), impl.Orbit{Long: 0.5}, 1)), "fail")
	want(t, "a product that is not finite", twoTold(impl.DriftsOf(ballOf(1, 2, 0, 0), impl.Orbit{Long: 1}, 0x1p126)), "fail")
	_, _, ok = impl.DriftsOf(ballOf(1, 2, 0, 0), impl.Orbit{Long: 1}, 0x1p125)
	want(t, "half of it", ok, true)
}

func TestDriftOrbit(t *testing.T) {
	for i, o := range ellipses() {
		for _, b := range ordinaryBalls() {
			for _, time := range []float32{0, 1.7, -40} {
				what := fmt.Sprint("orbit ", i, ", ", b, ", the time ", time)
				node, peri, _ := impl.DriftsOf(b, o, 0.02)
				later, _ := impl.LaterOrbit(o, b.Mass, time)
				drifted, ok := impl.DriftOrbit(b, o, 0.02, time)
				want(t, what, ok && impl.ValidOrbit(drifted), true)
				gone := float64(node)*float64(time) + float64(peri)*float64(time)
				if math.Abs(gone) < 1000 {
					want(t, what+", Node", turnsApart(drifted.Node, o.Node+node*time) < 1e-4, true)
					want(t, what+", Peri", turnsApart(drifted.Peri, o.Peri+peri*time) < 1e-4, true)
				}
				drifted.Node, drifted.Peri = o.Node, o.Peri
				want(t, what+", all others", orbitText(drifted), orbitText(later))
				if time == 0 {
					want(t, what+", no time", orbitTold(impl.DriftOrbit(b, o, 0.02, time)), orbitText(later))
				}
			}
		}
	}
}

// TestDriftsAreWrapped has a Node that drifts by 0.25 times the bulge back in a
// unit of time, and a Peri by half of the bulge ahead, exactly.
func TestDriftsAreWrapped(t *testing.T) {
	b, belowOne := ballOf(1, 1, 0, 0), number(oneBits-1)
	node, peri, ok := impl.DriftsOf(b, impl.Orbit{Long: 1}, 1.0471976)
	want(t, "drifts", ok && node == -0.25 && peri == 0.5, true)
	for _, row := range []struct {
		from, time float32
		node, peri uint32
	}{
		{0.5, 1, bitsOf(0.25), plusZero},
		{0, 1, bitsOf(0.75), bitsOf(0.5)},
		{0, -4, plusZero, plusZero},
		{0.75, 2, bitsOf(0.25), bitsOf(0.75)},
		{0.75, -2, bitsOf(0.25), bitsOf(0.75)},
		{0.25, 1, plusZero, bitsOf(0.75)},
		// A sum just below 0 is rounded to 1, and one that is just below 1 stays.
		{0, 1e-9, plusZero, bitsOf(5e-10)},
		{0, -1e-9, bitsOf(2.5e-10), plusZero},
		{0, number(leastBits), plusZero, plusZero},
		{belowOne, 1e-9, bitsOf(belowOne), bitsOf(belowOne)},
		{belowOne, -1e-9, bitsOf(belowOne), bitsOf(belowOne)},
		{belowOne, 0x1p-23, bitsOf(number(oneBits - 2)), plusZero},
		{0, 0, plusZero, plusZero},
		{number(minusZero), 0, minusZero, plusZero},
	} {
		drifted, ok := impl.DriftOrbit(b, impl.Orbit{Long: 1, Node: row.from, Peri: row.from}, 1.0471976, row.time)
		want(t, fmt.Sprint(row), twoTold(drifted.Node, drifted.Peri, ok), fmt.Sprintf("%08x,%08x", row.node, row.peri))
	}
	want(t, "a sum that is not finite", orbitTold(impl.DriftOrbit(b, impl.Orbit{Long: 1}, 1e10, number(mostBits))), "fail")
	want(t, "one that is not finite back", orbitTold(impl.DriftOrbit(b, impl.Orbit{Long: 1}, 1e10, -number(mostBits))), "fail")
	drifted, ok := impl.DriftOrbit(b, impl.Orbit{Long: 1}, 1, number(mostBits))
	want(t, "a great one", orbitTold(drifted, ok), orbitText(impl.Orbit{Long: 1}))
}

func TestStillLong(t *testing.T) {
	for _, mass := range []float32{1, 0.02, 398600.44} {
		for _, spin := range []float32{1e-5, 0.3, 1, 40} {
			b := ballOf(mass, 1e-9, spin, 0.2)
			what := fmt.Sprint("the mass ", mass, ", the Spin ", spin)
			long, ok := impl.StillLong(b)
			period, _ := impl.PeriodOf(impl.Orbit{Long: long}, mass)
			want(t, what, ok && near(float64(period*spin), 1, 1e-5), true)
			// A circle above one place has the same mark at all times.
			track, ok := impl.TrackOf(b, impl.Orbit{Long: long, Phase: 0.3}, 0, 0.11/spin, 20)
			want(t, what, ok, true)
			for k, m := range track {
				want(t, fmt.Sprint(what, ", the mark ", k), m.North == 0 && turnsApart(m.East, 0.1) < 1e-4, true)
			}
		}
	}
	least, most := number(leastBits), number(mostBits)
	for _, spin := range append(zeros(), -least, -1, -most) {
		want(t, fmt.Sprint("the Spin ", spin), numberTold(impl.StillLong(ballOf(1, 1, spin, 0))), "fail")
	}
	want(t, "the least Spin, whose square is 0", numberTold(impl.StillLong(ballOf(1, 1, least, 0))), "fail")
	want(t, "a Spin whose square is not finite", numberTold(impl.StillLong(ballOf(1, 1, most, 0))), numberText(0))
	long, ok := impl.StillLong(ballOf(1, 1, 1e-19, 0))
	want(t, "far away", ok && near(float64(long), 1.363e12, 1e9), true)
	want(t, "a quotient that is not finite", numberTold(impl.StillLong(ballOf(most, 1, 0.01, 0))), "fail")
}

func TestThinAt(t *testing.T) {
	least, most, less, b := number(leastBits), number(mostBits), number(minusZero), aBall()
	for _, base := range []float32{0, less, 1, 0.3, least, most} {
		for _, high := range zeros() {
			want(t, fmt.Sprint("the base ", base, ", at the ground"), numberTold(impl.ThinAt(b, base, 2, high)), numberText(base))
		}
		want(t, fmt.Sprint("the base ", base, ", far away"), numberTold(impl.ThinAt(b, base, 2, most)), numberText(base*0))
		want(t, fmt.Sprint("the base ", base, ", a quotient that is not finite"), numberTold(impl.ThinAt(b, base, least, most)), numberText(base*0))
		want(t, fmt.Sprint("the base ", base, ", far below the ground"), numberTold(impl.ThinAt(b, base, 2, -most)), "fail")
	}
	for _, high := range []float32{0.1, 3, -2, -0.5, 20, -80} {
		thin, ok := impl.ThinAt(b, 0.7, 1.3, high)
		goal := 0.7 * math.Exp(-float64(high)/1.3)
		want(t, fmt.Sprint("the high ", high), ok && near(float64(thin), goal, 5e-6*goal), true)
	}
	_, ok := impl.ThinAt(b, 1, 1, -88)
	want(t, "just dense enough", ok, true)
	want(t, "too dense", numberTold(impl.ThinAt(b, 1, 1, -89)), "fail")
	want(t, "no air below the ground", numberTold(impl.ThinAt(b, 0, 1, -80)), numberText(0))
}

func TestSinkLong(t *testing.T) {
	b, most := ballOf(4, 1, 0, 0), number(mostBits)
	// The scale is so great that air is as dense everywhere, nearly.
	want(t, "long 4", numberTold(impl.SinkLong(b, 4, 0.5, 2, 1e30, 0.25)), numberText(3))
	want(t, "to the ground", numberTold(impl.SinkLong(b, 4, 0.5, 2, 1e30, 0.75)), numberText(1))
	want(t, "below it", numberTold(impl.SinkLong(b, 4, 0.5, 2, 1e30, 1)), numberText(0))
	want(t, "below the middle", numberTold(impl.SinkLong(b, 4, 0.5, 2, 1e30, 4)), numberText(-12))
	for _, x := range zeros() {
		for _, long := range []float32{number(oneBits + 1), 3.3, 1e37} {
			want(t, fmt.Sprint("no tick, long ", long), numberTold(impl.SinkLong(b, long, 0.5, 2, 1, x)), numberText(long))
			want(t, fmt.Sprint("no drag, long ", long), numberTold(impl.SinkLong(b, long, x, 2, 1, 1)), numberText(long))
			want(t, fmt.Sprint("no air, long ", long), numberTold(impl.SinkLong(b, long, 0.5, x, 1, 1)), numberText(long))
		}
	}
	want(t, "a root that is not finite", numberTold(impl.SinkLong(b, most, 0.5, 2, 1e38, 1)), "fail")
	want(t, "such a root and no tick", numberTold(impl.SinkLong(b, most, 0.5, 2, 1e38, 0)), "fail")
	want(t, "a product that is not finite", numberTold(impl.SinkLong(b, 4, most, 2, 1e30, 4)), "fail")
	want(t, "a product that is finite as it goes on", numberTold(impl.SinkLong(b, 4, 0x1p100, 0x1p-101, 1e30, 1)), numberText(2))
	want(t, "a product that is not, as it goes on", numberTold(impl.SinkLong(b, 4, 0x1p100, 0x1p-101, 1e30, 0x1p28)), "fail")
	want(t, "above the least ball", numberTold(impl.SinkLong(ballOf(1, number(leastBits), 0, 0), number(leastBits+1), 0, 1, 1, 1)), "00000002")
}

// TestCirclesSinkAndNeverRise has promise 7.
func TestCirclesSinkAndNeverRise(t *testing.T) {
	sinks := 0
	for i, c := range sinkings() {
		for _, tick := range []float32{0, 0.001, 1, 50} {
			list, low, ok := impl.SinkRun(c.ball, c.long, c.drag, c.base, c.scale, tick, impl.MaxMarks)
			what := fmt.Sprint("row ", i, ", the tick ", tick)
			last := c.long
			for k, long := range list {
				want(t, fmt.Sprint(what, ", step ", k), long <= last, true)
				want(t, fmt.Sprint(what, ", step ", k, ", from above the ground"), last > c.ball.Radius, true)
				want(t, fmt.Sprint(what, ", step ", k), numberText(long), numberTold(impl.SinkLong(c.ball, last, c.drag, c.base, c.scale, tick)))
				if long < last {
					sinks++
				}
				last = long
			}
			if !ok {
				want(t, what, len(list) == 0 && !low, true)
				continue
			}
			want(t, what+", low", low, len(list) > 0 && last <= c.ball.Radius)
			want(t, what+", steps", len(list) == impl.MaxMarks || last <= c.ball.Radius, true)
		}
	}
	want(t, "steps that sink", sinks > 200, true)
}

// Below the ground, nothing sinks any more, not even for no steps; a run that
// comes there on its way succeeds.
func TestSinkRunsFromBelowTheGround(t *testing.T) {
	b := ballOf(4, 1, 0, 0)
	for _, long := range []float32{1, number(oneBits - 1), 0.5, 0, number(minusZero), -7, -number(mostBits)} {
		for _, steps := range []int64{0, 1, 5, impl.MaxMarks} {
			want(t, fmt.Sprint("from ", long, ", steps ", steps), runTold(impl.SinkRun(b, long, 0.5, 2, 1, 1, steps)), "fail")
			want(t, fmt.Sprint("without air, from ", long, ", steps ", steps), runTold(impl.SinkRun(b, long, 0, 0, 1, 0, steps)), "fail")
		}
	}
	want(t, "a run that comes there", runTold(impl.SinkRun(b, 4, 0.5, 2, 1e30, 4, impl.MaxMarks)), "c1400000 true")
}

func TestSinkRun(t *testing.T) {
	b, above := ballOf(4, 1, 0, 0), number(oneBits+1)
	want(t, "at once to the ground", runTold(impl.SinkRun(b, 4, 0.5, 2, 1e30, 0.75, 9)), "3f800000 true")
	want(t, "at once below it", runTold(impl.SinkRun(b, 4, 0.5, 2, 1e30, 4, 9)), "c1400000 true")
	want(t, "later", runTold(impl.SinkRun(b, 4, 0.25, 2, 1e30, 1, 9)), "40000000,3f15f61a true")
	want(t, "not yet", runTold(impl.SinkRun(b, 4, 0.25, 2, 1e30, 1, 1)), "40000000 false")
	want(t, "in the last step", runTold(impl.SinkRun(b, 4, 0.25, 2, 1e30, 1, 2)), "40000000,3f15f61a true")
	want(t, "not at all", runTold(impl.SinkRun(b, 4, 0, 2, 1e30, 1, 3)), "40800000,40800000,40800000 false")
	want(t, "just above the ground", runTold(impl.SinkRun(b, above, 0, 2, 1, 1, 2)), "3f800001,3f800001 false")
	for _, long := range []float32{above, 4, 1e30} {
		want(t, fmt.Sprint("no steps, long ", long), runTold(impl.SinkRun(b, long, 0.5, 2, 1, 1, 0)), " false")
	}
	list, low, ok := impl.SinkRun(b, 4, 0, 2, 1, 1, impl.MaxMarks)
	want(t, "most steps", ok && len(list) == impl.MaxMarks && !low, true)
	want(t, "too many steps", runTold(impl.SinkRun(b, 4, 0, 2, 1, 1, impl.MaxMarks+1)), "fail")
	// The first step leads to where the air is so dense that the second one fails.
	thin := ballOf(1, 1, 0, 0)
	first, low, ok := impl.SinkRun(thin, 1.5, 1e9, 1e34, 0.005, 1, 1)
	want(t, "the first step", ok && !low && len(first) == 1 && first[0] > 1 && first[0] < 1.5, true)
	want(t, "the second step", runTold(impl.SinkRun(thin, 1.5, 1e9, 1e34, 0.005, 1, 2)), "fail")
	want(t, "a root that is not finite", runTold(impl.SinkRun(b, number(mostBits), 0, 2, 1e38, 1, 1)), "fail")
	want(t, "a root that is not asked for", runTold(impl.SinkRun(b, number(mostBits), 0, 2, 1e38, 1, 0)), " false")
}
