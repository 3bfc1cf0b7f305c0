package tests

import (
	"fmt"
	"testing"

	"loop.example/g01284/impl"
)

// TestCrossingsOf has crossings, each between the places before and behind,
// of flights that go upward, and of none that go downward.
func TestCrossingsOf(t *testing.T) {
	counts := 0
	for i, c := range append(scenes()[:16], calmShips()...) {
		for _, tick := range []float32{0.1, -0.1, 0.04} {
			what := fmt.Sprint("ship ", i, ", the tick ", tick)
			crossings, ok := impl.CrossingsOf(c.share, c.ship, tick, impl.MaxRun)
			want(t, what, ok, true)
			next := 0
			for n := range int64(impl.MaxRun) {
				before, _ := impl.RunShip(c.share, c.ship, tick, n)
				behind, _ := impl.RunShip(c.share, c.ship, tick, n+1)
				if imag(before.At) < 0 && imag(behind.At) >= 0 {
					q := imag(before.At) / (imag(before.At) - imag(behind.At))
					at := float64(real(before.At)) + float64(q)*(float64(real(behind.At))-float64(real(before.At)))
					right := float64(real(before.Speed)) + float64(q)*(float64(real(behind.Speed))-float64(real(before.Speed)))
					apart := 1e-6 * float64(impl.LongOf(before.At)+impl.LongOf(behind.At)+impl.LongOf(before.Speed)+impl.LongOf(behind.Speed))
					found := next < len(crossings) && near(float64(real(crossings[next])), at, apart) && near(float64(imag(crossings[next])), right, apart)
					want(t, fmt.Sprint(what, ", the crossing ", next), found, true)
					next++
				}
			}
			want(t, what+", as many crossings", len(crossings), next)
			counts += next
		}
	}
	want(t, "crossings", counts > 20, true)
}

// TestCrossingsOnTheAxis has steps that are so short that only At changes, by
// subnormal numbers.
func TestCrossingsOnTheAxis(t *testing.T) {
	least, less := number(leastBits), number(minusZero)
	tick := 6 * least
	for what, row := range map[string]struct {
		from, up  float32
		steps     int64
		to        uint32
		crossings string
	}{
		"ends on the axis":         {-2 * least, 0.25, 1, plusZero, complexText(3)},
		"ends there and goes on":   {-2 * least, 0.25, 2, 2, complexText(3)},
		"ends before the axis":     {-3 * least, 0.25, 1, minusZero | 1, ""},
		"goes over it":             {-3 * least, 0.25, 2, 1, complexText(3)},
		"begins on it":             {0, 0.25, 1, 2, ""},
		"begins on it at -0":       {less, 0.25, 1, 2, ""},
		"begins on it, downward":   {0, -0.25, 2, minusZero | 4, ""},
		"ends on it, downward":     {2 * least, -0.25, 1, plusZero, ""},
		"goes over it downward":    {1 * least, -0.25, 1, minusZero | 1, ""},
		"stays on it":              {0, 0, 4, plusZero, ""},
		"stays on it at -0":        {less, 0, 4, plusZero, ""},
		"stays below":              {-least, 0, 4, minusZero | 1, ""},
		"no step before the axis":  {-2 * least, 0.25, 0, minusZero | 2, ""},
		"steps far below the axis": {-1, 0.25, impl.MaxRun, bitsOf(-1), ""},
	} {
		s := shipOf(3, row.from, 0, row.up)
		run, ok := impl.RunShip(0.5, s, tick, row.steps)
		want(t, what+", where it ends", numberTold(imag(run.At), ok), fmt.Sprintf("%08x", row.to))
		crossings, ok := impl.CrossingsOf(0.5, s, tick, row.steps)
		want(t, what, ok, true)
		for i, x := range crossings {
			crossings[i] = complex(real(x), impl.FlushNumber(imag(x)))
		}
		want(t, what, pointsText(crossings), row.crossings)
	}
}

func TestClosestPass(t *testing.T) {
	for i, c := range append(scenes()[:16], calmShips()...) {
		_, lesser, _ := impl.MassesAt(c.share)
		for _, steps := range []int64{0, 1, 20, impl.MaxRun} {
			trace, _ := impl.TraceShip(c.share, c.ship, 0.04, steps)
			step, distance, ok := impl.ClosestPass(c.share, c.ship, 0.04, steps)
			what := fmt.Sprint("ship ", i, ", steps ", steps)
			want(t, what, ok && len(trace) == int(steps+1), true)
			for n, at := range trace {
				far := impl.LongOf(at - complex(lesser, 0))
				if n == int(step) {
					want(t, what+", its distance", numberText(far), numberText(distance))
				}
				if far < distance || far == distance && n < int(step) {
					t.Errorf("%s: nearer or earlier at %d", what, n)
				}
			}
		}
	}
	most := number(mostBits)
	want(t, "at the lesser mass", passTold(impl.ClosestPass(0.5, shipOf(0.5, 0, 1, 1), 1, 0)), "0 00000000")
	want(t, "it stands still", passTold(impl.ClosestPass(0.5, shipOf(0.5, 2, 0, 0), 0, impl.MaxRun)), "0 40000000")
	want(t, "the least distance", passTold(impl.ClosestPass(0.5, shipOf(0.5, number(leastBits), 0, 0), 1, 0)), "0 00000001")
	want(t, "the greatest distance", passTold(impl.ClosestPass(0.5, shipOf(most, 0, 0, 0), 1, 0)), "0 "+numberText(most))
	want(t, "a distance that is not finite", passTold(impl.ClosestPass(0.5, shipOf(most, most, 0, 0), 1, 0)), "fail")
	want(t, "a flight that fails", passTold(impl.ClosestPass(0.5, shipOf(0.5, 0, 1, 1), 1, 1)), "fail")
}

func TestPartingOf(t *testing.T) {
	for i, c := range calmShips() {
		for _, apart := range []complex64{0.01, complex(0, -0.02), complex(-0.005, 0.01)} {
			what := fmt.Sprint("ship ", i, ", apart ", apart)
			here, _ := impl.RunShip(c.share, c.ship, 0.03, 20)
			there, _ := impl.RunShip(c.share, impl.Ship{At: c.ship.At + apart, Speed: c.ship.Speed}, 0.03, 20)
			growth := impl.LogNumber(impl.LongOf(here.At-there.At) / impl.LongOf(apart))
			want(t, what, numberTold(impl.PartingOf(c.share, c.ship, apart, 0.03, 20)), numberText(growth/(float32(20)*0.03)))
		}
	}
	// Near a point of rest between the masses, ships part; how fast, its sways tell.
	points, _ := impl.PointsOf(0.3)
	for i, at := range points[:3] {
		sway, _, _ := impl.SwaysAt(0.3, at)
		goal := float64(impl.RootNumber(real(sway)))
		parting, ok := impl.PartingOf(0.3, impl.Ship{At: at}, 1e-5, 0.03, impl.MaxRun)
		want(t, fmt.Sprint("the point ", i), ok && near(float64(parting), goal, 0.5*goal), true)
	}
}

func TestPartingsAtTheLimits(t *testing.T) {
	least, less, most := number(leastBits), number(minusZero), number(mostBits)
	calm := shipOf(1.6, 0.3, -0.1, -0.7)
	want(t, "a tick that changes nothing", numberTold(impl.PartingOf(0.3, shipOf(2, 1, 0, 0), 0.25, least, impl.MaxRun)), numberText(0))
	want(t, "one step", numberTold(impl.PartingOf(0.3, calm, 0.25, 0.125, 1)) != "fail", true)
	want(t, "MaxRun steps", numberTold(impl.PartingOf(0.3, calm, 0.25, 0.01, impl.MaxRun)) != "fail", true)
	for _, steps := range append(wrongCounts(impl.MaxRun), 0) {
		want(t, fmt.Sprint("steps ", steps), numberTold(impl.PartingOf(0.3, calm, 0.25, 0.01, steps)), "fail")
	}
	for _, tick := range append(wrongNumbers(), 0, less, -least, -0.01) {
		want(t, fmt.Sprint("the tick ", tick), numberTold(impl.PartingOf(0.3, calm, 0.25, tick, 2)), "fail")
	}
	for _, a := range zeros() {
		for _, b := range zeros() {
			want(t, fmt.Sprint("not apart ", a, b), numberTold(impl.PartingOf(0.3, calm, complex(a, b), 0.01, 2)), "fail")
		}
	}
	for _, apart := range wrongPoints() {
		want(t, fmt.Sprint("apart ", apart), numberTold(impl.PartingOf(0.3, calm, apart, 0.01, 2)), "fail")
	}
	want(t, "so little apart that they are at one place", numberTold(impl.PartingOf(0.3, calm, complex(least, -least), 0.01, 2)), "fail")
	want(t, "apart at a mass", numberTold(impl.PartingOf(0.5, shipOf(0, 0, 0, 0), 0.5, 0.01, 2)), "fail")
	want(t, "the other one is not valid", numberTold(impl.PartingOf(0.5, shipOf(most, 0, 0, 0), complex(most, 0), least, 1)), "fail")
	want(t, "apart is not finite as a number", numberTold(impl.PartingOf(0.5, shipOf(0, 0.5, 0, 0), complex(most, most), least, 1)), "fail")
	want(t, "a time that is not finite", numberTold(impl.PartingOf(0.5, shipOf(0, 0.5, 0, 0), 0.25, most, 2)), "fail")
}

func TestReachMap(t *testing.T) {
	for _, share := range []float32{0.5, 0.3, 0.01215, number(leastBits)} {
		for wide := int64(1); wide <= impl.MaxCells; wide++ {
			for _, half := range []float32{1.5, 0.2, 40} {
				what := fmt.Sprint("the share ", share, ", half ", half, ", wide ", wide)
				cells, ok := impl.ReachMap(share, 3.25, half, wide)
				want(t, what, ok && len(cells) == int(wide*wide), true)
				for i, reached := range cells {
					x, y := float32(2*(i%int(wide))+1)/float32(wide)-1, float32(2*(i/int(wide))+1)/float32(wide)-1
					_, fits := impl.SpeedFor(share, complex(half*x, half*y), 3.25)
					want(t, fmt.Sprint(what, ", the cell ", i), reached, fits)
				}
			}
		}
	}
}

func TestReachMapsAtTheLimits(t *testing.T) {
	least, most := number(leastBits), number(mostBits)
	low := float32(0x1p-127)
	first, last := float32(1)/3-1, float32(5)/3-1
	for what, row := range map[string][2]string{
		"at least the constant":        {reachTold(impl.ReachMap(0.5, 4, 1, 1)), "x"},
		"less than it":                 {reachTold(impl.ReachMap(0.5, number(bitsOf(4)+1), 1, 1)), "."},
		"the least constant":           {reachTold(impl.ReachMap(0.5, -most, 1, 2)), "xx/xx"},
		"the greatest constant":        {reachTold(impl.ReachMap(0.5, most, 1, 2)), "../.."},
		"the greater mass at a middle": {reachTold(impl.ReachMap(-first/2, -most, 0.5, 3)), "xxx/.xx/xxx"},
		"the lesser mass at a middle":  {reachTold(impl.ReachMap(1-last, -most, 1, 3)), "xxx/xx./xxx"},
		"the least half":               {reachTold(impl.ReachMap(0.5, 4, least, 3)), "xxx/xxx/xxx"},
		"the greatest half":            {reachTold(impl.ReachMap(0.5, -most, most, 3)), ".../.x./..."},
		"twice the potential is great": {reachTold(impl.ReachMap(low, most, 1, 1)), "x"},
		"the potential is not finite":  {reachTold(impl.ReachMap(low/2, -most, 1, 1)), "."},
		"rows":                         {reachTold(impl.ReachMap(0.5, 3.6, 1.2, 3)), ".../xxx/..."},
	} {
		want(t, what, row[0], row[1])
	}
	cells, ok := impl.ReachMap(0.5, 4, 1, impl.MaxCells)
	want(t, "MaxCells", ok && len(cells) == impl.MaxCells*impl.MaxCells, true)
}

func TestReachMapsFailForWrongArguments(t *testing.T) {
	for _, share := range wrongShares() {
		want(t, fmt.Sprint("the share ", share), reachTold(impl.ReachMap(share, 3, 1, 2)), "fail")
	}
	for _, x := range wrongNumbers() {
		want(t, fmt.Sprint("the constant ", x), reachTold(impl.ReachMap(0.3, x, 1, 2)), "fail")
	}
	for _, half := range append(wrongNumbers(), 0, number(minusZero), -number(leastBits), -1) {
		want(t, fmt.Sprint("half ", half), reachTold(impl.ReachMap(0.3, 3, half, 2)), "fail")
	}
	for _, wide := range append(wrongCounts(impl.MaxCells), 0, 1<<32+1) {
		want(t, fmt.Sprint("wide ", wide), reachTold(impl.ReachMap(0.3, 3, 1, wide)), "fail")
	}
}
