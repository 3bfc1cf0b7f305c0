package tests

import (
	"fmt"
	"testing"

	"loop.example/g01284/impl"
)

// turningPair is a pair of bodies whose sums are small integers.
func turningPair() []impl.Body {
	return []impl.Body{
		bodyOf(vectorOf(1, 0, 0), vectorOf(0, 2, 0), 3), bodyOf(vectorOf(-3, 0, 0), vectorOf(0, -2, 1), 1),
	}
}

func TestSumsOverBodies(t *testing.T) {
	pair := turningPair()
	want(t, "mass", numberTold(impl.MassOfBodies(pair)), numberText(4))
	want(t, "centre", twoVectorsTold(impl.CentreOfBodies(pair)), vectorText(vectorOf(0, 0, 0))+" "+vectorText(vectorOf(0, 1, 0.25)))
	want(t, "momentum", vectorTold(impl.MomentumOfBodies(pair)), vectorText(vectorOf(0, 4, 1)))
	want(t, "turning", vectorTold(impl.TurningOfBodies(pair)), vectorText(vectorOf(0, 3, 12)))
	want(t, "energy", numberTold(impl.EnergyOfBodies(pair, 0)), numberText(6+2.5-0.75))
	want(t, "energy with a core", numberTold(impl.EnergyOfBodies(pair, 3)), numberText(6+2.5-0.6))
}

func TestSumsOverNoBody(t *testing.T) {
	zero := vectorText(vectorOf(0, 0, 0))
	want(t, "mass", numberTold(impl.MassOfBodies(nil)), numberText(0))
	want(t, "momentum", vectorTold(impl.MomentumOfBodies(nil)), zero)
	want(t, "turning", vectorTold(impl.TurningOfBodies(nil)), zero)
	want(t, "energy", numberTold(impl.EnergyOfBodies(nil, 0)), numberText(0))
	want(t, "centre", twoVectorsTold(impl.CentreOfBodies(nil)), "fail")
	want(t, "rest", bodiesTold(impl.RestBodies(nil)), "fail")
}

func TestSumsOverBodiesWithoutMass(t *testing.T) {
	less, zero := number(minusZero), vectorText(vectorOf(0, 0, 0))
	light := []impl.Body{bodyOf(vectorOf(-1, 2, 3), vectorOf(4, -5, 6), less), bodyOf(vectorOf(-1, 2, 3), vectorOf(-6, 5, 4), 0)}
	want(t, "mass", numberTold(impl.MassOfBodies(light[:1])), numberText(0))
	want(t, "momentum", vectorTold(impl.MomentumOfBodies(light)), zero)
	want(t, "turning", vectorTold(impl.TurningOfBodies(light)), zero)
	want(t, "energy", numberTold(impl.EnergyOfBodies(light, 0)), numberText(0))
	want(t, "centre", twoVectorsTold(impl.CentreOfBodies(light)), "fail")
	want(t, "rest", bodiesTold(impl.RestBodies(light)), "fail")
	heavy := append(light, massAt(2, 4, 6, 0.5))
	want(t, "the centre is where the mass is", twoVectorsTold(impl.CentreOfBodies(heavy)), vectorText(vectorOf(2, 4, 6))+" "+zero)
}

func TestSumsThatAreNotFinite(t *testing.T) {
	most, small := number(mostBits), number(leastBits)
	heavy := []impl.Body{massAt(0, 0, 0, most), massAt(1, 0, 0, most)}
	want(t, "the greatest mass", numberTold(impl.MassOfBodies(heavy[:1])), numberText(most))
	want(t, "mass", numberTold(impl.MassOfBodies(heavy)), "fail")
	resting := []impl.Body{massAt(0, 0, 0, most), massAt(0, 0, 0, most)}
	want(t, "centre of an infinite mass", twoVectorsTold(impl.CentreOfBodies(resting)), "fail")
	want(t, "rest of an infinite mass", bodiesTold(impl.RestBodies(resting)), "fail")
	want(t, "centre of a subnormal mass", twoVectorsTold(impl.CentreOfBodies([]impl.Body{massAt(1, 1, 1, small)})), "fail")
	want(t, "centre of a small mass", twoVectorsTold(impl.CentreOfBodies([]impl.Body{massAt(1, 2, -1, 0x1p-127)})),
		vectorText(vectorOf(1, 2, -1))+" "+vectorText(vectorOf(0, 0, 0)))
	far := []impl.Body{massAt(0, 0, 1e38, 10)}
	want(t, "centre that is too far between", twoVectorsTold(impl.CentreOfBodies(far)), "fail")
	fast := []impl.Body{bodyOf(vectorOf(0, 0, 0), vectorOf(0, -1e38, 0), 10)}
	want(t, "centre that is too fast between", twoVectorsTold(impl.CentreOfBodies(fast)), "fail")
	want(t, "momentum", vectorTold(impl.MomentumOfBodies(fast)), "fail")
	want(t, "energy", numberTold(impl.EnergyOfBodies(fast, 0)), "fail")
	want(t, "turning", vectorTold(impl.TurningOfBodies([]impl.Body{bodyOf(vectorOf(1e20, 0, 0), vectorOf(0, 1e20, 0), 0)})), "fail")
	strong := []impl.Body{bodyOf(vectorOf(0, 0, 0), vectorOf(2e19, 0, 0), 1), massAt(1, 0, 0, 1e30), massAt(1.5, 0, 0, 1e30)}
	want(t, "energy less an infinity", numberTold(impl.EnergyOfBodies(strong[1:], 0)), "fail")
	want(t, "infinity less infinity", numberTold(impl.EnergyOfBodies(strong, 0)), "fail")
}

func TestOrderOfSumsOverBodies(t *testing.T) {
	ordered := []impl.Body{bodyOf(vectorOf(1, 0, 0), vectorOf(0, 1, 0), big), massAt(0, 0, 0, 1), massAt(0, 0, 0, 1)}
	want(t, "mass", numberTold(impl.MassOfBodies(ordered)), numberText(big))
	want(t, "mass, the other way", numberTold(impl.MassOfBodies([]impl.Body{ordered[1], ordered[2], ordered[0]})), numberText(big+2))
	moving := []impl.Body{
		bodyOf(vectorOf(0, 0, 0), vectorOf(big, 0, 0), 1), bodyOf(vectorOf(0, 0, 0), vectorOf(1, 0, 0), 1), bodyOf(vectorOf(0, 0, 0), vectorOf(1, 0, 0), 1),
	}
	want(t, "momentum", vectorTold(impl.MomentumOfBodies(moving)), vectorText(vectorOf(big, 0, 0)))
	want(t, "momentum, the other way", vectorTold(impl.MomentumOfBodies([]impl.Body{moving[1], moving[2], moving[0]})), vectorText(vectorOf(big+2, 0, 0)))
	most := number(mostBits)
	slow := []impl.Body{bodyOf(vectorOf(0, 0, 0), vectorOf(0x1p-74, 0, 0), number(leastBits)), bodyOf(vectorOf(0, 0, 0), vectorOf(0x1p63, 0, 0), number(leastBits))}
	want(t, "half of the least mass is 0", numberTold(impl.EnergyOfBodies(slow[1:], 0)), numberText(0))
	want(t, "half of the greatest one", numberTold(impl.EnergyOfBodies([]impl.Body{bodyOf(vectorOf(0, 0, 0), vectorOf(1.25, 0, 0), most)}, 0)), numberText(most/2*1.5625))
}

func TestEnergyOfBodiesAtOnePlace(t *testing.T) {
	one := []impl.Body{massAt(1, 2, 3, 4), massAt(1, 2, 3, 6)}
	want(t, "no core", numberTold(impl.EnergyOfBodies(one, 0)), numberText(0))
	want(t, "a core", numberTold(impl.EnergyOfBodies(one, 8)), numberText(-3))
	want(t, "a core of -0", numberTold(impl.EnergyOfBodies(one, number(minusZero))), numberText(0))
	want(t, "a core whose square is 0", numberTold(impl.EnergyOfBodies(one, 1e-30)), numberText(0))
	want(t, "a core whose square is subnormal", numberTold(impl.EnergyOfBodies(one, 0x1p-70)), numberText(-24*0x1p70))
	want(t, "an infinite square", numberTold(impl.EnergyOfBodies(one, 3e38)), numberText(0))
}

func TestEnergyIsKeptNearly(t *testing.T) {
	for _, apart := range []float32{0.5, 1, 3} {
		list, ok := impl.CircleBodies(0.7, 0.4, apart)
		want(t, "circle", ok, true)
		before, _ := impl.EnergyOfBodies(list, 0)
		turning, _ := impl.TurningOfBodies(list)
		list, ok = impl.RunBodies(list, 0, 0.01, impl.MaxRun)
		want(t, "run", ok, true)
		after, _ := impl.EnergyOfBodies(list, 0)
		later, _ := impl.TurningOfBodies(list)
		momentum, _ := impl.MomentumOfBodies(list)
		if d := after/before - 1; d > 1e-4 || d < -1e-4 || before >= 0 {
			t.Errorf("%v apart: the energy %v becomes %v", apart, before, after)
		}
		if d := later.Z/turning.Z - 1; d > 1e-5 || d < -1e-5 {
			t.Errorf("%v apart: the turning %v becomes %v", apart, turning, later)
		}
		if impl.SizeOfVector(momentum) > 1e-6 {
			t.Errorf("%v apart: the momentum becomes %v", apart, momentum)
		}
	}
}

func TestRestBodies(t *testing.T) {
	want(t, "pair", bodiesTold(impl.RestBodies(turningPair())), bodiesText([]impl.Body{
		bodyOf(vectorOf(1, 0, 0), vectorOf(0, 1, -0.25), 3), bodyOf(vectorOf(-3, 0, 0), vectorOf(0, -3, 0.75), 1),
	}))
	want(t, "one", bodiesTold(impl.RestBodies([]impl.Body{bodyOf(vectorOf(1, 2, 3), vectorOf(4, -5, 6), 2)})), bodiesText([]impl.Body{massAt(0, 0, 0, 2)}))
	zeros := number(minusZero)
	want(t, "zeros", bodiesTold(impl.RestBodies([]impl.Body{massAt(zeros, zeros, zeros, 1)})), bodiesText([]impl.Body{massAt(zeros, zeros, zeros, 1)}))
	far := []impl.Body{massAt(3e38, 0, 0, 0), massAt(-3e38, 0, 0, 1)}
	want(t, "too far from the centre", bodiesTold(impl.RestBodies(far)), "fail")
}

func TestNearestBodies(t *testing.T) {
	places := []impl.Body{massAt(0, 0, 0, 1), massAt(5, 0, 0, 1), massAt(5, 3, 4, 1), massAt(0, 3, 0, 1), massAt(0, 3, 3, 1), massAt(1, 4, 3, 1)}
	want(t, "the last two", nearestTold(impl.NearestBodies(places)), fmt.Sprint("4 5 ", numberText(impl.RootNumber(2))))
	want(t, "the first ones of several", nearestTold(impl.NearestBodies(places[:5])), fmt.Sprint("0 3 ", numberText(3)))
	want(t, "in the order of i", nearestTold(impl.NearestBodies([]impl.Body{places[4], places[0], places[3]})), fmt.Sprint("0 2 ", numberText(3)))
	want(t, "in the order of k", nearestTold(impl.NearestBodies(row(4))), fmt.Sprint("0 1 ", numberText(2)))
	want(t, "at one place", nearestTold(impl.NearestBodies(append(row(3), row(3)...))), "0 3 00000000")
	want(t, "three at one place", nearestTold(impl.NearestBodies([]impl.Body{places[1], places[0], places[0], places[0]})), "1 2 00000000")
	want(t, "a distance whose square is 0", nearestTold(impl.NearestBodies([]impl.Body{places[0], places[1], massAt(1e-30, 0, 0, 1)})), "0 2 00000000")
	want(t, "MaxBodies", nearestTold(impl.NearestBodies(append(row(impl.MaxBodies-1), massAt(29.5, 0, 0, 0)))), fmt.Sprint("14 15 ", numberText(1.5)))
	want(t, "none", nearestTold(impl.NearestBodies(nil)), "fail")
	want(t, "one", nearestTold(impl.NearestBodies(row(1))), "fail")
	far := []impl.Body{massAt(-2e19, 0, 0, 1), massAt(2e19, 0, 0, 1), massAt(2e19, 0, 1e19, 1)}
	want(t, "an infinite distance", nearestTold(impl.NearestBodies(far[:2])), "fail")
	want(t, "a finite one beside infinite ones", nearestTold(impl.NearestBodies(far)), fmt.Sprint("1 2 ", numberText(1e19)))
}

func TestNearestPass(t *testing.T) {
	passing := []impl.Body{bodyOf(vectorOf(-3, 1, 0), vectorOf(1, 0, 0), 0), massAt(0, 0, 0, 0)}
	want(t, "before", passTold(impl.NearestPass(passing, 0, 1, 2)), fmt.Sprint("2 ", numberText(impl.RootNumber(2))))
	want(t, "reached", passTold(impl.NearestPass(passing, 0, 1, 3)), fmt.Sprint("3 ", numberText(1)))
	want(t, "behind", passTold(impl.NearestPass(passing, 0, 1, impl.MaxRun)), fmt.Sprint("3 ", numberText(1)))
	want(t, "the first one of two", passTold(impl.NearestPass(passing, 0, 2, 5)), fmt.Sprint("1 ", numberText(impl.RootNumber(2))))
	want(t, "the other way", passTold(impl.NearestPass(passing, 0, -1, 5)), fmt.Sprint("0 ", numberText(impl.RootNumber(10))))
	want(t, "no step", passTold(impl.NearestPass(passing, 0, 1, 0)), fmt.Sprint("0 ", numberText(impl.RootNumber(10))))
	want(t, "at one place", passTold(impl.NearestPass(append(passing, massAt(0, 0, 0, 0)), 0, 1, 5)), "0 00000000")
	want(t, "another pair", passTold(impl.NearestPass(append(passing, bodyOf(vectorOf(4, 0, 0), vectorOf(-1, 0, 0), 0)), 0, 1, 3)), fmt.Sprint("3 ", numberText(1)))
	for _, steps := range []int64{-1, impl.MaxRun + 1, -1 << 63, 1<<63 - 1} {
		want(t, fmt.Sprint("steps ", steps), passTold(impl.NearestPass(passing, 0, 1, steps)), "fail")
	}
	want(t, "none", passTold(impl.NearestPass(nil, 0, 1, 0)), "fail")
	want(t, "one", passTold(impl.NearestPass(row(1), 0, 1, 0)), "fail")
	leaving := []impl.Body{bodyOf(vectorOf(0, 0, 0), vectorOf(-2e38, 0, 0), 0), bodyOf(vectorOf(1, 0, 0), vectorOf(1, 0, 0), 0)}
	want(t, "a step that fails later", passTold(impl.NearestPass(leaving, 0, 1, 2)), "fail")
	want(t, "no step that fails", passTold(impl.NearestPass(leaving, 0, 1, 1)), fmt.Sprint("0 ", numberText(1)))
	coming := []impl.Body{bodyOf(vectorOf(-2e19, 0, 0), vectorOf(1e19, 0, 0), 0), massAt(0, 0, 0, 0)}
	want(t, "an infinite distance at first", passTold(impl.NearestPass(coming, 0, 1, 1)), fmt.Sprint("1 ", numberText(1e19)))
	want(t, "an infinite distance only", passTold(impl.NearestPass(coming, 0, 1, 0)), "fail")
}

func TestBoundTo(t *testing.T) {
	list := []impl.Body{
		massAt(0, 0, 0, 3), bodyOf(vectorOf(0, 2, 0), vectorOf(2, 0, 0), 1), bodyOf(vectorOf(0, 2, 0), vectorOf(1.75, 0, 0), 1),
		bodyOf(vectorOf(0, 2, 0), vectorOf(2.25, 0, 0), 1),
	}
	want(t, "just not", boundTold(impl.BoundTo(list, 0, 1)), "false")
	want(t, "bound", boundTold(impl.BoundTo(list, 0, 2)), "true")
	want(t, "the other way", boundTold(impl.BoundTo(list, 2, 0)), "true")
	want(t, "too fast", boundTold(impl.BoundTo(list, 0, 3)), "false")
	want(t, "at one place", boundTold(impl.BoundTo(list, 1, 2)), "fail")
	light := []impl.Body{massAt(0, 0, 0, 0), massAt(1, 0, 0, 0), bodyOf(vectorOf(1, 0, 0), vectorOf(0, 1, 0), 0)}
	want(t, "no mass", boundTold(impl.BoundTo(light, 0, 1)), "false")
	want(t, "no mass, but a speed", boundTold(impl.BoundTo(light, 0, 2)), "false")
	want(t, "no mass at one place", boundTold(impl.BoundTo(light, 1, 2)), "fail")
	most := number(mostBits)
	heavy := []impl.Body{massAt(0, 0, 0, most), massAt(4, 0, 0, most), bodyOf(vectorOf(4, 0, 0), vectorOf(2e19, 0, 0), 1), massAt(3e19, 0, 0, 1)}
	want(t, "an infinite mass", boundTold(impl.BoundTo(heavy, 0, 1)), "fail")
	want(t, "an infinite square", boundTold(impl.BoundTo(heavy, 0, 2)), "fail")
	want(t, "an infinite distance", boundTold(impl.BoundTo(heavy, 0, 3)), "false")
	for _, i := range []int64{-1, 4, 1 << 32, -1 << 63, 1<<63 - 1} {
		want(t, fmt.Sprint("no index ", i), boundTold(impl.BoundTo(list, 0, i)), "fail")
		want(t, fmt.Sprint("no first index ", i), boundTold(impl.BoundTo(list, i, 0)), "fail")
	}
	want(t, "itself", boundTold(impl.BoundTo(list, 2, 2)), "fail")
	want(t, "the last one", boundTold(impl.BoundTo(row(impl.MaxBodies), 0, impl.MaxBodies-1)), "true")
}

func TestSumsFailForWrongArguments(t *testing.T) {
	for i, list := range wrongBodies() {
		for what, told := range map[string]string{
			"mass": numberTold(impl.MassOfBodies(list)), "centre": twoVectorsTold(impl.CentreOfBodies(list)),
			"rest": bodiesTold(impl.RestBodies(list)), "momentum": vectorTold(impl.MomentumOfBodies(list)),
			"turning": vectorTold(impl.TurningOfBodies(list)), "energy": numberTold(impl.EnergyOfBodies(list, 0)),
			"nearest": nearestTold(impl.NearestBodies(list)), "pass": passTold(impl.NearestPass(list, 0, 0, 0)),
			"bound": boundTold(impl.BoundTo(list, 0, 1)),
		} {
			want(t, fmt.Sprint("no bodies ", i, ": ", what), told, "fail")
		}
	}
	for _, core := range wrongCores() {
		want(t, fmt.Sprint("energy, the core ", core), numberTold(impl.EnergyOfBodies(nil, core)), "fail")
		want(t, fmt.Sprint("pass, the core ", core), passTold(impl.NearestPass(row(2), core, 0, 0)), "fail")
	}
	for _, tick := range wrongNumbers() {
		want(t, fmt.Sprint("pass, the tick ", tick), passTold(impl.NearestPass(row(2), 0, tick, 0)), "fail")
	}
}
