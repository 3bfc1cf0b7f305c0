package tests

import (
	"fmt"
	"testing"

	"loop.example/g01284/impl"
)

func anEllipse() impl.Orbit {
	return impl.Orbit{Long: 1.5, Round: 0.4, Tilt: 0.1, Node: 0.2, Peri: 0.3, Phase: 0.6}
}

func aBranch() impl.Orbit {
	return impl.Orbit{Long: -1.5, Round: 1.4, Tilt: 0.1, Node: 0.2, Peri: 0.3, Phase: -0.6}
}

// fieldsOf points to the six numbers of an orbit.
func fieldsOf(o *impl.Orbit) []*float32 {
	return []*float32{&o.Long, &o.Round, &o.Tilt, &o.Node, &o.Peri, &o.Phase}
}

const (
	longField = iota
	roundField
	tiltField
	nodeField
	periField
	phaseField
)

func changedOrbit(o impl.Orbit, field int, x float32) impl.Orbit {
	*fieldsOf(&o)[field] = x
	return o
}

// wrongOrbits has orbits of which one number is not as it must be, and others
// that are nearly ellipses or branches.
func wrongOrbits() []impl.Orbit {
	least, belowOne, aboveOne := number(leastBits), number(oneBits-1), number(oneBits+1)
	wrong := []impl.Orbit{{}, {Long: 1, Round: 2}, {Long: -1}, {Long: -1, Round: 0.5}, {Long: 1, Phase: -0.5}}
	for _, o := range []impl.Orbit{anEllipse(), aBranch()} {
		for field := range fieldsOf(&o) {
			for _, x := range wrongNumbers() {
				wrong = append(wrong, changedOrbit(o, field, x))
			}
		}
		for _, x := range []float32{0, number(minusZero), -o.Long} {
			wrong = append(wrong, changedOrbit(o, longField, x))
		}
		for _, x := range []float32{-least, 1, -o.Round} {
			wrong = append(wrong, changedOrbit(o, roundField, x))
		}
		for _, x := range []float32{-least, number(0x3f000001), 1, -0.25} {
			wrong = append(wrong, changedOrbit(o, tiltField, x))
		}
		for _, x := range []float32{-least, 1, aboveOne, -belowOne, 7} {
			wrong = append(wrong, changedOrbit(o, nodeField, x), changedOrbit(o, periField, x))
		}
	}
	for _, x := range []float32{-least, 1, 16, -16} {
		wrong = append(wrong, changedOrbit(anEllipse(), phaseField, x))
	}
	for _, x := range []float32{aboveOne, 1.4} {
		wrong = append(wrong, changedOrbit(anEllipse(), roundField, x))
	}
	for _, x := range []float32{0, belowOne, 0.4} {
		wrong = append(wrong, changedOrbit(aBranch(), roundField, x))
	}
	for _, x := range []float32{number(0x41800001), -number(0x41800001), 17, -1e30} {
		wrong = append(wrong, changedOrbit(aBranch(), phaseField, x))
	}
	return wrong
}

// wrongMasses are no masses, distances or Longs of circles.
func wrongMasses() []float32 {
	return append(wrongNumbers(), 0, number(minusZero), -number(leastBits), -1)
}

func TestExamplesOfChapter3(t *testing.T) {
	for phase := float32(0); phase < 1; phase += 0.0625 {
		swing, ok := impl.SwingOf(0, phase)
		want(t, "the swing on a circle is the phase", ok && near(float64(swing), float64(phase), 1e-6), true)
	}
	circle, ok := impl.CircleOrbit(1)
	want(t, "a circle", orbitTold(circle, ok), orbitText(impl.Orbit{Long: 1}))
	at, speed, ok := impl.StateOf(circle, 1)
	want(t, "its place", vectorTold(at, ok), vectorText(vectorOf(1, 0, 0)))
	want(t, "its speed", speed, vectorOf(0, 1, 0))
	period, ok := impl.PeriodOf(circle, 1)
	want(t, "its period", numberTold(period, ok), numberText(6.2831855))
}

func TestValidOrbit(t *testing.T) {
	for i, o := range orbits() {
		want(t, fmt.Sprint("orbit ", i), impl.ValidOrbit(o), true)
	}
	for i, o := range wrongOrbits() {
		want(t, fmt.Sprint("wrong orbit ", i, ", ", o), impl.ValidOrbit(o), false)
	}
}

func TestOrbitsAtTheirLimits(t *testing.T) {
	least, most, belowOne, aboveOne := number(leastBits), number(mostBits), number(oneBits-1), number(oneBits+1)
	for field, list := range [][]float32{
		longField: {least, most}, roundField: {0, number(minusZero), least, belowOne}, tiltField: {0, number(minusZero), least, 0.5},
		nodeField: {0, number(minusZero), least, belowOne}, periField: {0, number(minusZero), belowOne}, phaseField: {0, number(minusZero), belowOne},
	} {
		for _, x := range list {
			want(t, fmt.Sprintf("ellipse, number %d is %v", field, x), impl.ValidOrbit(changedOrbit(anEllipse(), field, x)), true)
		}
	}
	for field, list := range [][]float32{
		longField: {-least, -most}, roundField: {aboveOne, most}, tiltField: {0, 0.5}, nodeField: {0, belowOne}, periField: {0, belowOne},
		phaseField: {0, number(minusZero), 16, -16, 1, least},
	} {
		for _, x := range list {
			want(t, fmt.Sprintf("branch, number %d is %v", field, x), impl.ValidOrbit(changedOrbit(aBranch(), field, x)), true)
		}
	}
}

func TestSameOrbit(t *testing.T) {
	list := append(append(orbits(), anEllipse(), aBranch()), wrongOrbits()...)
	for _, a := range list {
		for _, b := range list {
			want(t, fmt.Sprint(a, b), impl.SameOrbit(a, b), orbitText(a) == orbitText(b))
		}
	}
	for field := range fieldsOf(&impl.Orbit{}) {
		plus := changedOrbit(anEllipse(), field, 0)
		minus := changedOrbit(anEllipse(), field, number(minusZero))
		one := changedOrbit(anEllipse(), field, number(nanBits))
		other := changedOrbit(anEllipse(), field, number(0xffc12345))
		want(t, "both zeros", impl.SameOrbit(plus, minus), false)
		want(t, "-0 twice", impl.SameOrbit(minus, minus), true)
		want(t, "not-a-numbers", impl.SameOrbit(one, other), true)
		want(t, "a not-a-number and a number", impl.SameOrbit(one, plus), false)
	}
}

func TestCircleOrbit(t *testing.T) {
	for _, long := range []float32{1, 0.3, number(leastBits), number(subnormal), number(mostBits)} {
		want(t, fmt.Sprint("the Long ", long), orbitTold(impl.CircleOrbit(long)), orbitText(impl.Orbit{Long: long}))
	}
	for _, long := range wrongMasses() {
		want(t, fmt.Sprint("the Long ", long), orbitTold(impl.CircleOrbit(long)), "fail")
	}
}

func TestSwingsLeadBackToPhases(t *testing.T) {
	for _, round := range []float32{0, number(minusZero), number(leastBits), 0.1, 0.5, 0.9, 0.999, number(oneBits - 1)} {
		for phase := float32(0); phase < 1; phase += 0.03125 {
			swing, ok := impl.SwingOf(round, phase)
			back, fits := impl.PhaseOfSwing(round, swing)
			if !ok || !fits || !near(float64(back), float64(phase), 1e-6) {
				t.Errorf("the phase %v of %v: the swing %v, and %v", phase, round, swing, back)
			}
			for _, turns := range []float32{-3, -1, 1, 4} {
				again, ok := impl.SwingOf(round, phase+turns)
				want(t, fmt.Sprint("the phase ", phase+turns, " of ", round), numberTold(again, ok), numberText(swing))
			}
		}
	}
}

func TestSwingsOfWrappedPhases(t *testing.T) {
	less := number(minusZero)
	want(t, "-0", numberTold(impl.SwingOf(0.5, less)), numberText(0))
	want(t, "the greatest number", numberTold(impl.SwingOf(0.5, number(mostBits))), numberText(0))
	want(t, "just below 0, not narrowed", numberTold(impl.SwingOf(0.5, -number(leastBits))), numberText(1))
	want(t, "just below 1", numberTold(impl.SwingOf(0, number(oneBits-1))), numberText(number(oneBits-1)))
	want(t, "phases are not wrapped", numberTold(impl.PhaseOfSwing(0.5, 2.5)), numberText(2.5))
	want(t, "less than 0", numberTold(impl.PhaseOfSwing(0.5, -1.5)), numberText(-1.5))
	want(t, "the phase of -0", numberTold(impl.PhaseOfSwing(0.5, less)), numberText(0))
	want(t, "the phase of -0, and of -0", numberTold(impl.PhaseOfSwing(less, less)), numberText(less))
	want(t, "subnormal", numberTold(impl.PhaseOfSwing(0, number(subnormal))), numberText(number(subnormal)))
}

func TestSwingsFailForWrongArguments(t *testing.T) {
	for _, round := range append(wrongNumbers(), -number(leastBits), -0.5, 1, number(oneBits+1), 2) {
		want(t, fmt.Sprint("swing, the Round ", round), numberTold(impl.SwingOf(round, 0.5)), "fail")
		want(t, fmt.Sprint("phase, the Round ", round), numberTold(impl.PhaseOfSwing(round, 0.5)), "fail")
	}
	for _, x := range wrongNumbers() {
		want(t, fmt.Sprint("the swing of ", x), numberTold(impl.SwingOf(0.5, x)), "fail")
		want(t, fmt.Sprint("the phase of ", x), numberTold(impl.PhaseOfSwing(0.5, x)), "fail")
	}
}

func TestLeansLeadBackToPhases(t *testing.T) {
	for _, round := range []float32{number(oneBits + 1), 1.001, 1.5, 2, 30, 1e6} {
		for phase := float32(-16); phase <= 16; phase += 0.5 {
			lean, ok := impl.LeanOf(round, phase)
			back, fits := impl.PhaseOfLean(round, lean)
			if !ok || !fits || !near(float64(back), float64(phase), 2e-5) {
				t.Errorf("the phase %v of %v: the lean %v, and %v", phase, round, lean, back)
			}
		}
	}
}

func TestLeansAtTheirLimits(t *testing.T) {
	above16, above10 := number(0x41800001), number(0x41200001)
	for _, sign := range []float32{1, -1} {
		want(t, "a phase of 16", numberTold(impl.LeanOf(2, sign*16)) != "fail", true)
		want(t, "a phase above 16", numberTold(impl.LeanOf(2, sign*above16)), "fail")
		want(t, "a lean of 10", numberTold(impl.PhaseOfLean(2, sign*10)) != "fail", true)
		want(t, "a lean above 10", numberTold(impl.PhaseOfLean(2, sign*above10)), "fail")
		want(t, "a phase that is not finite", numberTold(impl.PhaseOfLean(number(mostBits), sign*10)), "fail")
		want(t, "a phase that is", numberTold(impl.PhaseOfLean(number(mostBits), sign)) != "fail", true)
	}
}

func TestLeansFailForWrongArguments(t *testing.T) {
	for _, round := range append(wrongNumbers(), -number(leastBits), -2, 0, 0.5, number(oneBits-1), 1) {
		want(t, fmt.Sprint("lean, the Round ", round), numberTold(impl.LeanOf(round, 0.5)), "fail")
		want(t, fmt.Sprint("phase, the Round ", round), numberTold(impl.PhaseOfLean(round, 0.5)), "fail")
	}
	for _, x := range append(wrongNumbers(), 1e30, -1e30) {
		want(t, fmt.Sprint("the lean of ", x), numberTold(impl.LeanOf(2, x)), "fail")
		want(t, fmt.Sprint("the phase of ", x), numberTold(impl.PhaseOfLean(2, x)), "fail")
	}
}

// toldOfOrbit has what each function tells of an orbit around a mass.
func toldOfOrbit(o impl.Orbit, mass float32) map[string]string {
	return map[string]string{
		"PlaneOf": planeTold(impl.PlaneOf(o, mass)), "StateOf": twoVectorsTold(impl.StateOf(o, mass)),
		"RateOf": numberTold(impl.RateOf(o, mass)), "PeriodOf": numberTold(impl.PeriodOf(o, mass)),
		"LaterOrbit": orbitTold(impl.LaterOrbit(o, mass, 0)), "SpeedAt": numberTold(impl.SpeedAt(o, mass, 1)),
		"EnergyOfOrbit": numberTold(impl.EnergyOfOrbit(o, mass)), "TurningOfOrbit": numberTold(impl.TurningOfOrbit(o, mass)),
		"PlacesOf": vectorsTold(impl.PlacesOf(o, mass, 1)), "NearestOrbits": nearestTold(impl.NearestOrbits(o, anEllipse(), mass, 1)),
		"NearestOrbits, second": nearestTold(impl.NearestOrbits(anEllipse(), o, mass, 1)),
	}
}

// toldWithoutMass has what each function tells of an orbit alone.
func toldWithoutMass(o impl.Orbit) map[string]string {
	return map[string]string{
		"TrueTurn": numberTold(impl.TrueTurn(o)), "NearOf": numberTold(impl.NearOf(o)), "FarOf": numberTold(impl.FarOf(o)),
		"BesideOf": numberTold(impl.BesideOf(o)), "TiltBetween": numberTold(impl.TiltBetween(o, aBranch())),
		"TiltBetween, second": numberTold(impl.TiltBetween(aBranch(), o)),
	}
}

func TestOrbitsFailForWrongArguments(t *testing.T) {
	for i, o := range wrongOrbits() {
		for what, told := range toldOfOrbit(o, 1) {
			want(t, fmt.Sprint(what, " of wrong orbit ", i, ", ", o), told, "fail")
		}
		for what, told := range toldWithoutMass(o) {
			want(t, fmt.Sprint(what, " of wrong orbit ", i, ", ", o), told, "fail")
		}
	}
	for _, mass := range wrongMasses() {
		for _, o := range []impl.Orbit{anEllipse(), aBranch()} {
			for what, told := range toldOfOrbit(o, mass) {
				want(t, fmt.Sprint(what, " around the mass ", mass), told, "fail")
			}
		}
	}
	for what, told := range toldOfOrbit(anEllipse(), 1) {
		want(t, what+" of an ellipse", told != "fail", true)
	}
	for what, told := range toldWithoutMass(anEllipse()) {
		want(t, what+" of an ellipse", told != "fail", true)
	}
}

func TestWhatBranchesDoNotHave(t *testing.T) {
	not := map[string]bool{"PeriodOf": true, "FarOf": true, "PlacesOf": true, "NearestOrbits": true, "NearestOrbits, second": true}
	for what, told := range toldOfOrbit(aBranch(), 1) {
		want(t, what+" of a branch", told == "fail", not[what])
	}
	for what, told := range toldWithoutMass(aBranch()) {
		want(t, what+" of a branch", told == "fail", not[what])
	}
}
