package tests

import (
	"fmt"
	"testing"

	"loop.example/g01284/impl"
)

// wrongCounts are no counts from 0 to limit.
func wrongCounts(limit int64) []int64 { return []int64{-1, limit + 1, -1 << 63, 1<<63 - 1} }

// scaledShip has all numbers of a ship that many times.
func scaledShip(s impl.Ship, by float32) impl.Ship {
	return impl.Ship{At: impl.ScaleComplex(s.At, by), Speed: impl.ScaleComplex(s.Speed, by)}
}

// TestStepShipFarAway has a step that no mass changes: so far away, cubes of
// distances are not finite. Each number on the way is exact.
func TestStepShipFarAway(t *testing.T) {
	rest := shipOf(1, 0, 0, 0)
	behind := shipOf(1.24169921875, -0.140625, 0.5390625, -0.509765625)
	for _, by := range []float32{0x1p60, 0x1p90, -0x1p120} {
		want(t, fmt.Sprint(by, " away"), shipTold(impl.StepShip(0.5, scaledShip(rest, by), 0.75)), shipText(scaledShip(behind, by)))
	}
}

func TestStepShipAndZeros(t *testing.T) {
	less := number(minusZero)
	zero, lesser := shipOf(0, 0, 0, 0), shipOf(less, less, less, less)
	want(t, "a tick of 0", shipTold(impl.StepShip(0.5, lesser, 0)), shipText(zero))
	want(t, "a step", shipTold(impl.StepShip(0.5, lesser, 1)), shipText(zero))
	// The sum of rates is -0 for At, and +0 for Speed.
	want(t, "a step back", shipTold(impl.StepShip(0.5, lesser, -1)), shipText(shipOf(0, 0, less, less)))
	want(t, "a step back from +0", shipTold(impl.StepShip(0.5, zero, -1)), shipText(zero))
	for i, c := range scenes()[3:16] {
		for _, tick := range zeros() {
			told, ok := impl.StepShip(c.share, c.ship, tick)
			want(t, fmt.Sprint("a tick of ", tick, ", scene ", i+3), ok && told.At == c.ship.At && told.Speed == c.ship.Speed, true)
		}
	}
}

func TestStepsOfShipsThatFail(t *testing.T) {
	most := number(mostBits)
	for what, row := range map[string]struct {
		ship impl.Ship
		tick float32
	}{
		"the first push":    {shipOf(0, 2, 0, most), 0},
		"the second push":   {shipOf(0.25, 0, 0.5, 0), 1},
		"the third push":    {shipOf(0x1p120, 0, 0, 0), 16},
		"the last push":     {shipOf(0x1p119, 0, 0, 0), 8},
		"At on the way":     {shipOf(most, 0, 0x1p120, 0), 1},
		"Speed on the way":  {shipOf(0.3, 0.4, 0, 0), most},
		"the sum of rates":  {shipOf(0x1p126, 0, 0, 0), 0},
		"a mass on the way": {shipOf(0.5, -0.5, 0, 1), 1},
	} {
		want(t, what, shipTold(impl.StepShip(0.5, row.ship, row.tick)), "fail")
		want(t, what+", in a run", shipTold(impl.RunShip(0.5, row.ship, row.tick, 2)), "fail")
	}
}

func TestRunShipMakesSteps(t *testing.T) {
	for i, c := range scenes()[:16] {
		now, trace := c.ship, []complex64{c.ship.At}
		for n := range int64(impl.MaxRun + 1) {
			what := fmt.Sprint("scene ", i, ", steps ", n)
			want(t, what, shipTold(impl.RunShip(c.share, c.ship, 0.03, n)), shipText(now))
			want(t, what+", its trace", pointsTold(impl.TraceShip(c.share, c.ship, 0.03, n)), pointsText(trace))
			now, _ = impl.StepShip(c.share, now, 0.03)
			trace = append(trace, now.At)
		}
		for _, n := range wrongCounts(impl.MaxRun) {
			what := fmt.Sprint("scene ", i, ", steps ", n)
			want(t, what, shipTold(impl.RunShip(c.share, c.ship, 0.03, n)), "fail")
			want(t, what+", its trace", pointsTold(impl.TraceShip(c.share, c.ship, 0.03, n)), "fail")
		}
	}
}

// calmShips fly, for a time of 1.28, where pulls do not change much in a tick.
func calmShips() []scene {
	return append([]scene{
		{0.5, shipOf(0, 1.2, 0.3, 0)}, {0.3, shipOf(1.6, 0.3, -0.1, -0.7)}, {0.1, shipOf(-1.4, 0.2, 0.2, 0.5)}, {0.01215, shipOf(0.5, 0.85, 0.05, 0.02)},
		{0.01215, shipOf(-0.6, 0, 0, -0.7)}, {0.001, shipOf(0, -0.9, 0.1, 0.05)}, {3e-6, shipOf(0.7, 0.7, 0.1, 0.1)}, {number(leastBits), shipOf(0, 2, 2, 0)},
	}, scenes()[3:6]...)
}

func TestFlightsKeepTheirConstant(t *testing.T) {
	for i, c := range calmShips() {
		before, ok := impl.ConstantOf(c.share, c.ship)
		want(t, fmt.Sprint("ship ", i), ok, true)
		for _, tick := range []float32{0.02, -0.02} {
			for _, steps := range []int64{1, 10, impl.MaxRun} {
				run, ok := impl.RunShip(c.share, c.ship, tick, steps)
				behind, fits := impl.ConstantOf(c.share, run)
				if !ok || !fits || !near(float64(behind), float64(before), 2e-5) {
					t.Errorf("ship %d, tick %v, steps %d: %v, but %v", i, tick, steps, behind, before)
				}
			}
		}
	}
}

func nearShips(a, b impl.Ship, apart float32) bool {
	return impl.LongOf(a.At-b.At) <= apart && impl.LongOf(a.Speed-b.Speed) <= apart
}

func TestMirroredShipsGoBack(t *testing.T) {
	for i, c := range calmShips() {
		run, _ := impl.RunShip(c.share, c.ship, 0.02, impl.MaxRun)
		mirrored, ok := impl.MirrorShip(run)
		want(t, "it is mirrored", ok, true)
		back, _ := impl.RunShip(c.share, mirrored, 0.02, impl.MaxRun)
		again, ok := impl.MirrorShip(back)
		want(t, fmt.Sprint("ship ", i), ok && nearShips(again, c.ship, 2e-5), true)
		undone, ok := impl.RunShip(c.share, run, -0.02, impl.MaxRun)
		want(t, fmt.Sprint("ship ", i, ", with the opposite tick"), ok && nearShips(undone, c.ship, 2e-5), true)
	}
	less, most := number(minusZero), number(mostBits)
	want(t, "its parts", shipTold(impl.MirrorShip(shipOf(1, 2, 3, 4))), shipText(shipOf(1, -2, -3, 4)))
	want(t, "zeros", shipTold(impl.MirrorShip(shipOf(0, 0, 0, 0))), shipText(shipOf(0, less, less, 0)))
	want(t, "zeros with signs", shipTold(impl.MirrorShip(shipOf(less, less, less, less))), shipText(shipOf(less, 0, 0, less)))
	want(t, "the greatest ones", shipTold(impl.MirrorShip(shipOf(most, -most, most, -most))), shipText(shipOf(most, most, -most, -most)))
}

func TestTurns(t *testing.T) {
	quarter := float32(6.2831855) / 4
	less := number(minusZero)
	for what, row := range map[string]struct {
		told string
		ship impl.Ship
	}{
		"in, no time":       {shipTold(impl.TurnIn(shipOf(1, 2, 3, 5), 0)), shipOf(1, 2, 5, 4)},
		"out, no time":      {shipTold(impl.TurnOut(shipOf(1, 2, 3, 5), less)), shipOf(1, 2, 1, 6)},
		"in, a quarter":     {shipTold(impl.TurnIn(shipOf(1, 2, 3, 5), quarter)), shipOf(2, -1, 4, -5)},
		"out, a quarter":    {shipTold(impl.TurnOut(shipOf(1, 2, 3, 5), quarter)), shipOf(-2, 1, -6, 1)},
		"in, back":          {shipTold(impl.TurnIn(shipOf(1, 2, 3, 5), -quarter)), shipOf(-2, 1, -4, 5)},
		"out, back":         {shipTold(impl.TurnOut(shipOf(1, 2, 3, 5), -quarter)), shipOf(2, -1, 6, -1)},
		"in, half":          {shipTold(impl.TurnIn(shipOf(1, 2, 3, 5), 2*quarter)), shipOf(-1, -2, -5, -4)},
		"in, a whole turn":  {shipTold(impl.TurnIn(shipOf(1, 2, 3, 5), 4*quarter)), shipOf(1, 2, 5, 4)},
		"in, so many turns": {shipTold(impl.TurnIn(shipOf(1, 2, 3, 5), number(mostBits))), shipOf(1, 2, 5, 4)},
		"out, many turns":   {shipTold(impl.TurnOut(shipOf(1, 2, 3, 5), 0x1p60)), shipOf(1, 2, 1, 6)},
		"a circle rests":    {shipTold(impl.TurnIn(shipOf(0, -2, 2, 0), 0)), shipOf(0, -2, 0, 0)},
		"what rests turns":  {shipTold(impl.TurnOut(shipOf(0, -2, 0, 0), quarter)), shipOf(2, 0, 0, 2)},
	} {
		want(t, what, row.told, shipText(row.ship))
	}
}

// TestTablesOfTurnTimes has rows with the bits of a time, and of ships that are
// turned in and out then, from the program that has told the other tables.
func TestTablesOfTurnTimes(t *testing.T) {
	for _, row := range []struct {
		time    uint32
		in, out string
	}{
		{0x41d014e3, "400b59923f02545e,40c8b44bbfa502e3", "bf662d1240030782,c07e701a4093520e"},
		{0x3fa950f7, "400bcb49bef4f6d6,40a35c28c0775dc3", "bfd8bee83fbaed08,c0b24519401c4e2d"},
		{0xc0999167, "40050e6dbf52c057,408d5c4dc09453f7", "bff3f7d93f95aa2d,c0bc83233fc1f42f"},
		{0x3eb1896b, "3fcf61c03fc54362,40c1fa2740040358", "3e85869e400e21b7,bf8c9e7240bf7290"},
		{0x447a0000, "400dd50b3e988d4c,40c3d2c1bff13d10", "bf8bb0323ff9d077,c08cc29e40867110"},
	} {
		time := number(row.time)
		want(t, fmt.Sprint("in at ", time), shipTold(impl.TurnIn(shipOf(1, 2, 3, 5), time)), row.in)
		want(t, fmt.Sprint("out at ", time), shipTold(impl.TurnOut(shipOf(1, 2, 3, 5), time)), row.out)
	}
}

func TestTurnsAreUndone(t *testing.T) {
	for i, c := range scenes() {
		for _, time := range []float32{0, 0.3, -0.3, 1, 2.5, -7, 40, 1000} {
			in, ok := impl.TurnIn(c.ship, time)
			out, fits := impl.TurnOut(in, time)
			apart := 1e-6 * (impl.LongOf(c.ship.At) + impl.LongOf(c.ship.Speed))
			want(t, fmt.Sprint("scene ", i, ", in and out at ", time), ok && fits && nearShips(out, c.ship, apart), true)
			out, ok = impl.TurnOut(c.ship, time)
			in, fits = impl.TurnIn(out, time)
			want(t, fmt.Sprint("scene ", i, ", out and in at ", time), ok && fits && nearShips(in, c.ship, apart), true)
		}
	}
	most := number(mostBits)
	want(t, "in, a speed that is not finite", shipTold(impl.TurnIn(shipOf(0, most, most, 0), 0)), "fail")
	want(t, "out, a speed that is not finite", shipTold(impl.TurnOut(shipOf(most, 0, 0, most), 0)), "fail")
	want(t, "a place that is not finite", shipTold(impl.TurnOut(shipOf(most, most, 0, 0), 0.75)), "fail")
}

// TestFlightsFarAwayAreStraight turns ships that no mass pulls into the frame
// and, later, out of it.
func TestFlightsFarAwayAreStraight(t *testing.T) {
	for _, from := range []impl.Ship{shipOf(1, 0, 0.3, -0.2), shipOf(-0.5, 2, 0, 0), shipOf(0.1, 0.2, -1, 0.7)} {
		in, _ := impl.TurnIn(scaledShip(from, 0x1p60), 0.5)
		run, _ := impl.RunShip(0.3, in, 0.03125, 32)
		out, ok := impl.TurnOut(run, 1.5)
		goal := impl.Ship{At: from.At + from.Speed, Speed: from.Speed}
		want(t, fmt.Sprint("from ", from), ok && nearShips(scaledShip(out, 0x1p-60), goal, 1e-5), true)
	}
}

// flightsTold tells what functions of flights tell.
func flightsTold(share float32, s impl.Ship, tick float32, steps int64) map[string]string {
	return map[string]string{
		"RunShip": shipTold(impl.RunShip(share, s, tick, steps)), "TraceShip": pointsTold(impl.TraceShip(share, s, tick, steps)),
		"CrossingsOf": pointsTold(impl.CrossingsOf(share, s, tick, steps)), "ClosestPass": passTold(impl.ClosestPass(share, s, tick, steps)),
		"PartingOf": numberTold(impl.PartingOf(share, s, 0.01, tick, steps)),
	}
}

func wantFlightsFail(t *testing.T, what string, share float32, s impl.Ship, tick float32) {
	t.Helper()
	want(t, "StepShip: "+what, shipTold(impl.StepShip(share, s, tick)), "fail")
	for _, steps := range []int64{0, 1, impl.MaxRun} {
		for name, told := range flightsTold(share, s, tick, steps) {
			want(t, fmt.Sprint(name, ", ", steps, " steps: ", what), told, "fail")
		}
	}
}

func TestFlightsFailForWrongArguments(t *testing.T) {
	for _, share := range wrongShares() {
		wantFlightsFail(t, fmt.Sprint("the share ", share), share, shipOf(0.3, 0.4, 0, 0), 0.1)
	}
	for _, s := range wrongShips() {
		wantFlightsFail(t, fmt.Sprint("the ship ", s), 0.3, s, 0.1)
		want(t, fmt.Sprint("mirror ", s), shipTold(impl.MirrorShip(s)), "fail")
		want(t, fmt.Sprint("in ", s), shipTold(impl.TurnIn(s, 1)), "fail")
		want(t, fmt.Sprint("out ", s), shipTold(impl.TurnOut(s, 1)), "fail")
	}
	for _, x := range wrongNumbers() {
		wantFlightsFail(t, fmt.Sprint("the tick ", x), 0.3, shipOf(0.3, 0.4, 0, 0), x)
		want(t, fmt.Sprint("in at the time ", x), shipTold(impl.TurnIn(shipOf(1, 1, 1, 1), x)), "fail")
		want(t, fmt.Sprint("out at the time ", x), shipTold(impl.TurnOut(shipOf(1, 1, 1, 1), x)), "fail")
	}
	for _, steps := range wrongCounts(impl.MaxRun) {
		for name, told := range flightsTold(0.3, shipOf(0.3, 0.9, 0, 0), 0.01, steps) {
			want(t, fmt.Sprint(name, ", steps ", steps), told, "fail")
		}
	}
	for name, told := range flightsTold(0.3, shipOf(0.3, 0.9, 0, 0), 0.01, impl.MaxRun) {
		want(t, name+" of MaxRun steps succeeds", told != "fail", true)
	}
}
