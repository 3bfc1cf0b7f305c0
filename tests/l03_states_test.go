package tests

import (
	"fmt"
	"math"
	"testing"

	"loop.example/g01284/impl"
)

// ordinaryOrbits are not so round, and not so near to the plane, that one of
// their numbers could be told in several ways.
func ordinaryOrbits() []impl.Orbit {
	return append([]impl.Orbit{
		{Long: 1, Round: 0.1, Tilt: 0.05, Node: 0.9, Peri: 0.6, Phase: 0.3}, {Long: 700, Round: 0.8, Tilt: 0.44, Node: 0.01, Peri: 0.99, Phase: 0.97},
		{Long: 0.03, Round: 0.5, Tilt: 0.25, Node: 0.25, Peri: 0.5, Phase: 0.75}, {Long: 5, Round: 0.3, Tilt: 0.3, Node: 0.5, Peri: 0.25, Phase: 0.5},
		{Long: -1, Round: 2, Tilt: 0.05, Node: 0.9, Peri: 0.6, Phase: 0.3}, {Long: -700, Round: 1.3, Tilt: 0.44, Node: 0.1, Peri: 0.98, Phase: -1.7},
		{Long: -0.03, Round: 5, Tilt: 0.25, Node: 0.25, Peri: 0.5, Phase: -0.05}, {Long: -8, Round: 1.6, Tilt: 0.35, Node: 0.5, Peri: 0.3, Phase: 3},
	}, anEllipse(), aBranch())
}

func circlesAndPlanes() []impl.Orbit {
	var list []impl.Orbit
	for _, tilt := range []float32{0, 0.125, 0.25, 0.4, 0.5} {
		for _, node := range []float32{0, 0.3, 0.75} {
			for _, phase := range []float32{0, 0.125, 0.5, 0.9} {
				list = append(list, impl.Orbit{Long: 2, Tilt: tilt, Node: node, Peri: 0.6, Phase: phase})
			}
		}
	}
	for _, tilt := range []float32{0, number(minusZero), 0.5} {
		for _, peri := range []float32{0, 0.25, 0.7} {
			list = append(list, impl.Orbit{Long: 2, Round: 0.6, Tilt: tilt, Node: 0.3, Peri: peri, Phase: 0.2}, impl.Orbit{Long: -2, Round: 1.6, Tilt: tilt, Node: 0.3, Peri: peri, Phase: 0.2})
		}
	}
	return list
}

// turnsApart is how far two numbers of turns are from one another.
func turnsApart(a, b float32) float64 {
	d := float64(a) - float64(b)
	return math.Abs(d - math.Round(d))
}

func nearVectors(a, b impl.Vector, apart float64) bool {
	return near(float64(a.X), float64(b.X), apart) && near(float64(a.Y), float64(b.Y), apart) && near(float64(a.Z), float64(b.Z), apart)
}

// wantNearState compares two states, as parts of how long they are.
func wantNearState(t *testing.T, what string, at, speed, otherAt, otherSpeed impl.Vector, apart float64) {
	t.Helper()
	if !nearVectors(at, otherAt, apart*float64(impl.SizeOfVector(otherAt))) || !nearVectors(speed, otherSpeed, apart*float64(impl.SizeOfVector(otherSpeed))) {
		t.Errorf("%s: %v and %v, but %v and %v", what, at, speed, otherAt, otherSpeed)
	}
}

func TestOrbitsAreFoundAgain(t *testing.T) {
	for i, o := range ordinaryOrbits() {
		for _, mass := range []float32{1, 0.3, 40} {
			what := fmt.Sprint("orbit ", i, ", the mass ", mass)
			at, speed, ok := impl.StateOf(o, mass)
			found, fits := impl.OrbitOf(at, speed, mass)
			want(t, what, ok && fits, true)
			want(t, what+", Long", near(float64(found.Long/o.Long), 1, 1e-5), true)
			want(t, what+", Round", near(float64(found.Round), float64(o.Round), 1e-5), true)
			want(t, what+", Tilt", near(float64(found.Tilt), float64(o.Tilt), 1e-6), true)
			want(t, what+", Node", turnsApart(found.Node, o.Node) < 1e-6, true)
			want(t, what+", Peri", turnsApart(found.Peri, o.Peri) < 1e-5, true)
			want(t, what+", Phase", near(float64(found.Phase), float64(o.Phase), 1e-5), true)
		}
	}
}

func TestCirclesAndPlanesAreFoundAgain(t *testing.T) {
	for i, o := range circlesAndPlanes() {
		what := fmt.Sprint("orbit ", i, ", ", o)
		at, speed, ok := impl.StateOf(o, 3)
		found, fits := impl.OrbitOf(at, speed, 3)
		want(t, what, ok && fits, true)
		again, way, ok := impl.StateOf(found, 3)
		want(t, what, ok, true)
		wantNearState(t, what, again, way, at, speed, 1e-6)
		if o.Round == 0 {
			want(t, what+", Round", found.Round < 0.000001, true)
			want(t, what+", Peri", numberText(found.Peri), numberText(0))
		}
		if o.Tilt == 0 {
			want(t, what+", Node", numberText(found.Node), numberText(0))
			want(t, what+", Tilt", numberText(found.Tilt), numberText(0))
		}
	}
}

func TestCirclesInThePlaneAreExact(t *testing.T) {
	most := float32(0x1p120)
	for _, row := range []struct {
		at, speed impl.Vector
		mass      float32
		orbit     impl.Orbit
	}{
		{vectorOf(1, 0, 0), vectorOf(0, 1, 0), 1, impl.Orbit{Long: 1}},
		{vectorOf(0, 1, 0), vectorOf(-1, 0, 0), 1, impl.Orbit{Long: 1, Phase: 0.25}},
		{vectorOf(-4, 0, 0), vectorOf(0, -1, 0), 4, impl.Orbit{Long: 4, Phase: 0.5}},
		{vectorOf(0, -4, 0), vectorOf(1, 0, 0), 4, impl.Orbit{Long: 4, Phase: 0.75}},
		{vectorOf(1, 0, 0), vectorOf(0, -1, 0), 1, impl.Orbit{Long: 1, Tilt: 0.5}},
		{vectorOf(0, -1, 0), vectorOf(-1, 0, 0), 1, impl.Orbit{Long: 1, Tilt: 0.5, Phase: 0.25}},
		{vectorOf(1, 0, 0), vectorOf(0, 0, 1), 1, impl.Orbit{Long: 1, Tilt: 0.25}},
		{vectorOf(number(subnormal), 0, 0), vectorOf(0, 1, 0), number(subnormal), impl.Orbit{Long: number(subnormal)}},
		{vectorOf(1, 0, 0), vectorOf(0, 0x1p-70, 0), 0x1p-140, impl.Orbit{Long: 1}},
		{vectorOf(1, 0, 0), vectorOf(0, 0x1p60, 0), most, impl.Orbit{Long: 1}},
		{vectorOf(most, 0, 0), vectorOf(0, 1, 0), most, impl.Orbit{Long: most}},
	} {
		want(t, fmt.Sprint(row.at, row.speed), orbitTold(impl.OrbitOf(row.at, row.speed, row.mass)), orbitText(row.orbit))
	}
}

func TestZerosOfBothSignsInThePlane(t *testing.T) {
	less := number(minusZero)
	for i, a := range []float32{0, less} {
		for k, b := range []float32{0, less} {
			for _, turned := range []float32{1, -1} {
				plain := orbitTold(impl.OrbitOf(vectorOf(1, 2, 0), vectorOf(-0.7*turned, 0.4*turned, 0), 3))
				want(t, fmt.Sprint("zeros ", i, k, turned), orbitTold(impl.OrbitOf(vectorOf(1, 2, a), vectorOf(-0.7*turned, 0.4*turned, b), 3)), plain)
			}
			circle := orbitTold(impl.OrbitOf(vectorOf(1, a, b), vectorOf(b, 1, a), 1))
			want(t, fmt.Sprint("circle, zeros ", i, k), circle, orbitText(impl.Orbit{Long: 1}))
		}
	}
}

// ahead has a place at 1, 0, 0, and a speed across it.
func ahead(bits uint32, mass float32) (impl.Orbit, bool) {
	return impl.OrbitOf(vectorOf(1, 0, 0), vectorOf(0, number(bits), 0), mass)
}

func TestNearlyCircles(t *testing.T) {
	o, ok := ahead(oneBits-8, 1)
	want(t, "Round is less than 0.000001", orbitTold(o, ok), "3f7ffff0,357ffffc,00000000,00000000,00000000,00000000")
	o, ok = ahead(oneBits-9, 1)
	want(t, "Round is more than 0.000001", orbitTold(o, ok), "3f7fffee,358ffffd,00000000,00000000,3f000000,3f000000")
}

func TestRoundsOfOne(t *testing.T) {
	for what, row := range map[string]struct {
		speed uint32
		mass  float32
		told  string
	}{
		"1":                         {0x40000000, 2, "fail"},
		"less than 1":               {0x3fffffff, 2, "4a800000,3f7ffffc,00000000,00000000,00000000,00000000"},
		"more than 1":               {0x40000001, 2, "c9ffffff,3f800004,00000000,00000000,00000000,00000000"},
		"1 where it is narrowed":    {0x3f98c0b5, number(0x3f364ad0), "fail"},
		"1 where it is, from above": {0x3fcc66cd, number(0x3fa33400), "fail"},
	} {
		o, ok := ahead(row.speed, row.mass)
		want(t, what, orbitTold(o, ok), row.told)
	}
}

func TestTurnsThatAreNarrowedToOne(t *testing.T) {
	for what, row := range map[string]struct {
		at, speed impl.Vector
		told      string
	}{
		"Node":               {vectorOf(1, 0, 1e-20), vectorOf(0, 1, 0.5), "3faaaaab,3e800000,3d972029,00000000,00000000,00000000"},
		"Node, just not":     {vectorOf(1, 0, 1e-7), vectorOf(0, 1, 0.5), "3faaaaab,3e800000,3d972029,3f7fffff,00000000,32b19871"},
		"Peri":               {vectorOf(1, 0, 0), vectorOf(1e-8, 1.2, 0), "3fe4924c,3ee147b2,00000000,00000000,00000000,30d0555f"},
		"Peri, just not":     {vectorOf(1, 0, 0), vectorOf(1e-7, 1.2, 0), "3fe4924c,3ee147b2,00000000,00000000,3f7fffff,3282355c"},
		"Phase":              {vectorOf(1, -1e-7, 0), vectorOf(0, 1.2, 0), "3fe4924c,3ee147b2,00000000,00000000,331b5b10,00000000"},
		"Phase, just not":    {vectorOf(1, -1e-6, 0), vectorOf(0, 1.2, 0), "3fe4924c,3ee147b2,00000000,00000000,34c231d3,3f7ffffd"},
		"nothing, above all": {vectorOf(1, 0, -1e-20), vectorOf(0, 1, 0.5), "3faaaaab,3e800000,3d972029,1d708216,07243f76,00000000"},
	} {
		want(t, what, orbitTold(impl.OrbitOf(row.at, row.speed, 1)), row.told)
	}
}

func TestOrbitOfFails(t *testing.T) {
	at, speed, zero := vectorOf(1, 0.2, -0.3), vectorOf(0.1, 0.8, 0.4), vectorOf(0, number(minusZero), 0)
	want(t, "it does not", orbitTold(impl.OrbitOf(at, speed, 1)) != "fail", true)
	for what, told := range map[string]string{
		"at the mass":       orbitTold(impl.OrbitOf(zero, speed, 1)),
		"at rest":           orbitTold(impl.OrbitOf(at, zero, 1)),
		"both":              orbitTold(impl.OrbitOf(zero, zero, 1)),
		"away":              orbitTold(impl.OrbitOf(at, at, 1)),
		"toward the mass":   orbitTold(impl.OrbitOf(vectorOf(1, 2, 3), vectorOf(-2, -4, -6), 1)),
		"infinite Round":    orbitTold(impl.OrbitOf(vectorOf(3e38, 0, 0), vectorOf(0, 3e38, 0), 1)),
		"Long that is 0":    orbitTold(impl.OrbitOf(vectorOf(1, 0, 0), vectorOf(0, 1e30, 0), 1)),
		"infinite Long":     orbitTold(impl.OrbitOf(vectorOf(2e38, 0, 0), vectorOf(0, 1, 0), 1.001e38)),
		"far behind":        orbitTold(impl.OrbitOf(vectorOf(1e5, 1, 0), vectorOf(1, 1, 0), 1)),
		"far ahead":         orbitTold(impl.OrbitOf(vectorOf(-1e5, 1, 0), vectorOf(1, 1, 0), 1)),
		"a Phase beyond 16": orbitTold(impl.OrbitOf(vectorOf(1, 2, 3), vectorOf(30, -20, 10), 0.01)),
	} {
		want(t, what, told, "fail")
	}
	for _, mass := range wrongMasses() {
		want(t, fmt.Sprint("the mass ", mass), orbitTold(impl.OrbitOf(at, speed, mass)), "fail")
	}
	for _, x := range wrongNumbers() {
		for i, v := range []impl.Vector{vectorOf(x, 1, 1), vectorOf(1, x, 1), vectorOf(1, 1, x)} {
			want(t, fmt.Sprint("number ", i, " of the place is ", x), orbitTold(impl.OrbitOf(v, speed, 1)), "fail")
			want(t, fmt.Sprint("number ", i, " of the speed is ", x), orbitTold(impl.OrbitOf(at, v, 1)), "fail")
		}
	}
}

func TestEndsOfAnEllipse(t *testing.T) {
	less, o := number(minusZero), impl.Orbit{Long: 1, Round: 0.5}
	at, speed, ok := impl.PlaneOf(o, 1)
	want(t, "the nearest place", planeTold(at, speed, ok), complexText(0.5)+" "+complexText(complex(less, 1.7320508)))
	o.Phase = 0.5
	at, speed, ok = impl.PlaneOf(o, 1)
	want(t, "the farthest place", planeTold(at, speed, ok), complexText(complex(-1.5, less))+" "+complexText(complex(0, -0.57735026)))
	want(t, "half a turn", numberTold(impl.TrueTurn(o)), numberText(0.5))
	o.Tilt, o.Node, o.Peri = 0.25, 0.25, 0.25
	place, way, ok := impl.StateOf(o, 1)
	want(t, "it stands upright", ok && nearVectors(place, vectorOf(0, 0, -1.5), 1e-6) && nearVectors(way, vectorOf(0, 0.57735026, 0), 1e-6), true)
}

func TestPlacesThatAreNotFinite(t *testing.T) {
	far := impl.Orbit{Long: 3e38, Round: 0.5, Phase: 0.5}
	want(t, "PlaneOf", planeTold(impl.PlaneOf(far, 1)), "fail")
	want(t, "StateOf", twoVectorsTold(impl.StateOf(far, 1)), "fail")
	want(t, "TrueTurn", numberTold(impl.TrueTurn(far)), numberText(0.5))
	want(t, "PlacesOf", vectorsTold(impl.PlacesOf(far, 1, 2)), "fail")
	want(t, "PlacesOf the nearest one", vectorsTold(impl.PlacesOf(far, 1, 1)), vectorText(vectorOf(1.5e38, 0, 0)))
	far.Peri = 0.125
	want(t, "PlaneOf, before it is turned", planeTold(impl.PlaneOf(far, 1)), "fail")
	want(t, "StateOf, when it is turned", twoVectorsTold(impl.StateOf(far, 1)) != "fail", true)
	slant := impl.Orbit{Long: 3e38, Round: 0.3, Peri: 0.6, Phase: 0.33}
	want(t, "PlaneOf, slant", planeTold(impl.PlaneOf(slant, 1)) != "fail", true)
	want(t, "StateOf, no more slant", twoVectorsTold(impl.StateOf(slant, 1)), "fail")
}

func TestSpeedsThatAreNotFinite(t *testing.T) {
	fast := impl.Orbit{Long: number(leastBits)}
	want(t, "PlaneOf", planeTold(impl.PlaneOf(fast, 1e38)), "fail")
	want(t, "StateOf", twoVectorsTold(impl.StateOf(fast, 1e38)), "fail")
	want(t, "PlacesOf", vectorsTold(impl.PlacesOf(fast, 1e38, 1)), "fail")
	want(t, "TrueTurn", numberTold(impl.TrueTurn(fast)), numberText(0))
	want(t, "a lesser mass", planeTold(impl.PlaneOf(fast, 1)) != "fail", true)
	branch := impl.Orbit{Long: -number(leastBits), Round: 2}
	want(t, "PlaneOf a branch", planeTold(impl.PlaneOf(branch, 1e38)), "fail")
	want(t, "TrueTurn of a branch", numberTold(impl.TrueTurn(branch)), numberText(0))
}

// TestStatesTurn compares with the package math: what it tells of a place is
// turned around the axes of Z, of X, and of Z again.
func TestStatesTurn(t *testing.T) {
	turned := func(a, b, turns float64) (float64, float64) {
		s, c := math.Sincos(2 * math.Pi * turns)
		return a*c - b*s, a*s + b*c
	}
	for i, o := range append(append(ordinaryOrbits(), circlesAndPlanes()...), orbits()[:6]...) {
		at, speed, ok := impl.PlaneOf(o, 2)
		place, way, fits := impl.StateOf(o, 2)
		want(t, fmt.Sprint("orbit ", i), ok && fits, true)
		var list []impl.Vector
		for _, p := range []complex64{at, speed} {
			x, y := turned(float64(real(p)), float64(imag(p)), float64(o.Peri))
			y, z := turned(y, 0, float64(o.Tilt))
			x, y = turned(x, y, float64(o.Node))
			list = append(list, vectorOf(float32(x), float32(y), float32(z)))
		}
		wantNearState(t, fmt.Sprint("orbit ", i, ", ", o), place, way, list[0], list[1], 1e-6)
	}
}

func TestTrueTurnIsTheAngleOfThePlace(t *testing.T) {
	for i, o := range append(ordinaryOrbits(), circlesAndPlanes()...) {
		at, _, ok := impl.PlaneOf(o, 1)
		turn, fits := impl.TrueTurn(o)
		want(t, fmt.Sprint("orbit ", i), ok && fits && turnsApart(turn, impl.AngleOf(at)) < 1e-6, true)
	}
}
