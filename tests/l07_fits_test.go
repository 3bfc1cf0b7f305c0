package tests

import (
	"fmt"
	"math"
	"testing"

	"loop.example/g01284/impl"
)

// nudged has a place and a speed, one of whose six numbers is another one.
func nudged(at, speed impl.Vector, i int, by float32) (impl.Vector, impl.Vector) {
	*[]*float32{&at.X, &at.Y, &at.Z, &speed.X, &speed.Y, &speed.Z}[i] += by
	return at, speed
}

// missesAt tells the misses of a place and a speed.
func missesAt(at, speed impl.Vector, mass float32, l impl.Look) ([]float32, bool) {
	o, ok := impl.OrbitOf(at, speed, mass)
	if !ok {
		return nil, false
	}
	a, b, c, ok := impl.MissOf(o, mass, l)
	return []float32{a, b, c}, ok
}

// turnedBack takes whole turns away from a difference of Right.
func turnedBack(x float32) float32 { return float32(float64(x) - math.Floor(float64(x)+0.5)) }

// slopesOf tells the same as SlopesOfLook.
func slopesOf(at, speed impl.Vector, mass float32, l impl.Look) ([]float32, bool) {
	var list []float32
	for i := range 6 {
		moreAt, moreSpeed := nudged(at, speed, i, 0.015625)
		lessAt, lessSpeed := nudged(at, speed, i, -0.015625)
		more, ok := missesAt(moreAt, moreSpeed, mass, l)
		less, fits := missesAt(lessAt, lessSpeed, mass, l)
		if !ok || !fits {
			return nil, false
		}
		list = append(list, turnedBack(less[0]-more[0])*32, (less[1]-more[1])*32, (less[2]-more[2])*32)
	}
	return list, true
}

func TestFitsFailForWrongArguments(t *testing.T) {
	at, speed, _ := impl.StateOf(anEllipse(), 1.5)
	list := someLooks(anEllipse(), 1.5, 3)
	slopes := call{"SlopesOfLook", impl.SlopesOfLook, []any{at, speed, float32(1.5), list[1]}}
	step := call{"FitStep", impl.FitStep, []any{at, speed, float32(1.5), list}}
	none := call{"FitStep, no looks", impl.FitStep, []any{at, speed, float32(1.5), []impl.Look(nil)}}
	fit := call{"FitOrbit", impl.FitOrbit, []any{anEllipse(), float32(1.5), list, int64(2)}}
	rest := call{"FitOrbit, no rounds", impl.FitOrbit, []any{anEllipse(), float32(1.5), list, int64(0)}}
	for _, c := range []call{slopes, step, none, fit, rest} {
		c.wantFailingTypes(t)
	}
	for _, c := range []call{slopes, step, none} {
		wantFailing(t, c.name+", masses", c.f, c.list, 2, wrongMasses())
	}
	for _, c := range []call{fit, rest} {
		wantFailing(t, c.name+", masses", c.f, c.list, 1, wrongMasses())
	}
	wantFailing(t, "FitOrbit, rounds", impl.FitOrbit, fit.list, 3, append(wrongCounts(8), 1<<32))
}

func TestSlopesOfLook(t *testing.T) {
	for i, o := range append(ordinaryOrbits(), impl.Orbit{Long: 1}, impl.Orbit{Long: 2, Tilt: 0.25, Phase: 0.2}, impl.Orbit{Long: 1, Phase: 0.5}) {
		at, speed, _ := impl.StateOf(o, 1.5)
		for k, l := range someLooks(o, 1.5, 4) {
			what := fmt.Sprint("orbit ", i, ", look ", k)
			told := numbersTold(slopesOf(at, speed, 1.5, l))
			want(t, what, numbersTold(impl.SlopesOfLook(at, speed, 1.5, l)), told)
			l.Weight *= 7
			want(t, what+", another Weight", numbersTold(impl.SlopesOfLook(at, speed, 1.5, l)), told)
		}
	}
}

// At the time 0, looks depend on the place alone, in a way that is known.
func TestSlopesAtTheTime0(t *testing.T) {
	speed := vectorOf(0.1, -0.3, 0.8)
	for _, at := range []impl.Vector{vectorOf(2, 0.5, 0.3), vectorOf(1, 2, -1), vectorOf(3, -1, 2), vectorOf(-1, 2, 0.7), vectorOf(-2, 0.002, 0.3), vectorOf(-2, 0, -1), vectorOf(-3, -0.003, 0)} {
		x, y, z := float64(at.X), float64(at.Y), float64(at.Z)
		flat, far := math.Hypot(x, y), math.Hypot(z, math.Hypot(x, y))
		up := 2 * math.Pi * far * far
		known := []float64{
			-y / (2 * math.Pi * flat * flat), -x * z / flat / up, x / far,
			x / (2 * math.Pi * flat * flat), -y * z / flat / up, y / far,
			0, flat / up, z / far,
		}
		for _, right := range []float32{0, 0.5, -0.5, 0.49, -0.2} {
			slopes, ok := impl.SlopesOfLook(at, speed, 1.5, lookOf(0, right, 0.1, 2, 1))
			want(t, fmt.Sprint(at), ok && len(slopes) == 18, true)
			for i, slope := range slopes {
				goal := 0.0
				if i < len(known) {
					goal = known[i]
				}
				want(t, fmt.Sprint("slope ", i, " at ", at, ", Right ", right, ": ", slope), near(float64(slope), goal, 2e-4), true)
			}
		}
	}
}

func TestSlopesThatFail(t *testing.T) {
	const by = 0.015625
	far, mass := float32(2e19), float32(1e38)
	speed, _ := impl.CircleSpeed(mass, far)
	for what, row := range map[string]struct {
		at, speed impl.Vector
		mass      float32
	}{
		"a place that becomes the middle":  {vectorOf(by, 0, 0), vectorOf(0, 1, 0), 1},
		"one on the other side":            {vectorOf(-by, 0, 0), vectorOf(0, 1, 0), 1},
		"a speed that becomes 0":           {vectorOf(1, 0, 0), vectorOf(0, by, 0), 1},
		"one the other way":                {vectorOf(1, 0, 0), vectorOf(0, -by, 0), 1},
		"the last number of a speed":       {vectorOf(1, 0, 0), vectorOf(0, 0, -by), 1},
		"a place on a line with the speed": {vectorOf(1, by, 0), vectorOf(2, 0, 0), 1},
		"a look that is too far":           {vectorOf(far, 0, 0), vectorOf(0, speed, 0), mass},
		"a speed that is too great":        {vectorOf(1, 0, 0), vectorOf(0, 1e30, 0), 1},
	} {
		for _, l := range []impl.Look{lookOf(0, 0.1, 0, 1, 1), lookOf(0, 0.1, 0, 1, 0)} {
			want(t, what, numbersTold(impl.SlopesOfLook(row.at, row.speed, row.mass, l)), "fail")
			want(t, what+", a step", twoVectorsTold(impl.FitStep(row.at, row.speed, row.mass, []impl.Look{l})), "fail")
		}
	}
	slopes, ok := impl.SlopesOfLook(vectorOf(1e18, 1e18, -1e18), vectorOf(3e9, -3e9, 3e9), mass, lookOf(0, 0, 0, 1, 1))
	want(t, "numbers that are too great for a difference", numbersTold(slopes, ok), numbersTold(make([]float32, 18), true))
}

// threeOf has the first three numbers of a list.
func threeOf(list []float32) impl.Vector { return vectorOf(list[0], list[1], list[2]) }

// stepOf tells the same as FitStep, which solves the equations of all looks.
func stepOf(at, speed impl.Vector, mass float32, list []impl.Look) (impl.Vector, impl.Vector, bool) {
	a, b := make([]float32, 36), make([]float32, 6)
	for _, l := range list {
		slopes, ok := impl.SlopesOfLook(at, speed, mass, l)
		misses, fits := missesAt(at, speed, mass, l)
		if !ok || !fits {
			return impl.Vector{}, impl.Vector{}, false
		}
		for i := range 6 {
			for k := range 6 {
				a[6*i+k] += float32(l.Weight * impl.InnerOf(threeOf(slopes[3*i:]), threeOf(slopes[3*k:])))
			}
			b[i] += float32(l.Weight * impl.InnerOf(threeOf(slopes[3*i:]), threeOf(misses)))
		}
	}
	for i := range 6 {
		a[7*i] += 0.000001
	}
	x, ok := impl.SolveSquare(a, b)
	for i := range x {
		at, speed = nudged(at, speed, i, x[i])
	}
	return at, speed, ok
}

func TestFitStep(t *testing.T) {
	steps := 0
	for i, o := range append(ordinaryOrbits(), impl.Orbit{Long: 1}, impl.Orbit{Long: 2, Tilt: 0.25, Phase: 0.2}, impl.Orbit{Long: 1, Phase: 0.5}) {
		at, speed, _ := impl.StateOf(o, 1.5)
		for _, count := range []int{1, 2, 3, 8, impl.MaxLooks} {
			list := someLooks(o, 1.5, count)
			told := twoVectorsTold(stepOf(at, speed, 1.5, list))
			want(t, fmt.Sprint("orbit ", i, ", looks ", count), twoVectorsTold(impl.FitStep(at, speed, 1.5, list)), told)
			if told != "fail" {
				steps++
			}
		}
		_, _, ok := impl.FitStep(at, speed, 1.5, repeated(someLooks(o, 1.5, 1)[0], impl.MaxLooks+1))
		want(t, "one look more than the most", ok, false)
	}
	want(t, fmt.Sprint("steps that are made: ", steps), steps > 40, true)
}

func TestStepsThatStay(t *testing.T) {
	less := number(minusZero)
	at, speed := vectorOf(1, less, 3), vectorOf(less, 1, -2)
	stay := vectorText(vectorOf(1, 0, 3)) + " " + vectorText(vectorOf(0, 1, -2))
	want(t, "no looks", twoVectorsTold(impl.FitStep(at, speed, 1.5, nil)), stay)
	want(t, "no looks, no orbit", twoVectorsTold(impl.FitStep(vectorOf(0, 0, 0), speed, 1.5, nil)), vectorText(vectorOf(0, 0, 0))+" "+vectorText(vectorOf(0, 1, -2)))
	for _, weight := range zeros() {
		list := repeated(lookOf(0.5, 0.1, -0.1, 2, weight), 3)
		want(t, "Weights of 0", twoVectorsTold(impl.FitStep(at, speed, 1.5, list)), stay)
	}
	at, speed = vectorOf(1, 0, 0), vectorOf(0, 1, 0)
	want(t, "a look that fits", twoVectorsTold(impl.FitStep(at, speed, 1, []impl.Look{lookOf(0, 0, 0, 1, 1)})), twoVectorsTold(at, speed, true))
}

func TestStepsThatFail(t *testing.T) {
	at, speed, most := vectorOf(1, 0, 0), vectorOf(0, 1, 0), number(mostBits)
	heavy := lookOf(0, 0.1, 0, 2, most)
	want(t, "Weights that are too great", twoVectorsTold(impl.FitStep(at, speed, 1, []impl.Look{heavy, heavy})), "fail")
	want(t, "a look that is too far for its Weight", twoVectorsTold(impl.FitStep(at, speed, 1, []impl.Look{lookOf(0, 0, 0, 1e30, 1e20)})), "fail")
	fits, beyond := lookOf(0, 0, 0, 1, 1), lookOf(most, 0, 0, 1, 1)
	branch, fast, _ := impl.StateOf(impl.Orbit{Long: -1, Round: 2}, 1)
	for count := range impl.MaxLooks {
		list := repeated(fits, impl.MaxLooks)
		_, _, ok := impl.FitStep(branch, fast, 1, list)
		want(t, "no look fails", ok, true)
		list[count] = beyond
		want(t, fmt.Sprint("the look ", count, " fails"), twoVectorsTold(impl.FitStep(branch, fast, 1, list)), "fail")
	}
	want(t, "all looks fail", twoVectorsTold(impl.FitStep(branch, fast, 1, repeated(beyond, impl.MaxLooks))), "fail")
}

func TestManyStepsAtTheSameTime(t *testing.T) {
	at, speed, _ := impl.StateOf(anEllipse(), 1.5)
	list := someLooks(anEllipse(), 1.5, impl.MaxLooks)
	wantAtTheSameTime(t, twoVectorsTold(stepOf(at, speed, 1.5, list)), func(int) string {
		return twoVectorsTold(impl.FitStep(at, speed, 1.5, list))
	})
}

// A step goes nearly to the place where the looks fit.
func TestStepsLeadToTheLooks(t *testing.T) {
	for i, o := range []impl.Orbit{anEllipse(), aBranch(), {Long: 1}, {Long: 2, Tilt: 0.25, Phase: 0.2}, {Long: 1, Tilt: 0.03, Phase: 0.5}} {
		at, speed, _ := impl.StateOf(o, 1.5)
		list := exactLooks(o, 1.5, -1, -0.5, 0, 0.4, 0.9, 1.3)
		for k := range 6 {
			from, slow := nudged(at, speed, k, 0.01)
			to, fast, ok := impl.FitStep(from, slow, 1.5, list)
			want(t, fmt.Sprint("orbit ", i, ", number ", k), ok && nearVectors(to, at, 2e-3) && nearVectors(fast, speed, 2e-3), true)
		}
	}
}

// starts has orbits, and others that are nearly the same.
func starts() [][2]impl.Orbit {
	far := anEllipse()
	far.Long, far.Tilt, far.Phase = 1.45, 0.11, 0.61
	fast := aBranch()
	fast.Round, fast.Node, fast.Phase = 1.45, 0.21, -0.58
	return [][2]impl.Orbit{
		{anEllipse(), far}, {aBranch(), fast}, {{Long: 1}, {Long: 1.02, Round: 0.01, Tilt: 0.01}},
		{{Long: 2, Tilt: 0.25, Phase: 0.2}, {Long: 2.03, Round: 0.02, Tilt: 0.24, Phase: 0.21}}, {{Long: 1, Phase: 0.5}, {Long: 0.98, Tilt: 0.01, Phase: 0.49}},
	}
}

func TestRoundsAreSteps(t *testing.T) {
	for i, row := range starts() {
		for _, count := range []int{0, 1, 5, impl.MaxLooks} {
			list := someLooks(row[0], 1.5, count)
			o := row[1]
			at, speed, _ := impl.StateOf(o, 1.5)
			sums, ok := []float32{}, true
			for rounds := range int64(9) {
				what := fmt.Sprint("orbit ", i, ", looks ", count, ", rounds ", rounds)
				want(t, what, fitTold(impl.FitOrbit(row[1], 1.5, list, rounds)), fitTold(o, sums, ok))
				var sum float32
				step, found, told := true, true, true
				at, speed, step = impl.FitStep(at, speed, 1.5, list)
				o, found = impl.OrbitOf(at, speed, 1.5)
				sum, told = impl.SquareOfMisses(o, 1.5, list)
				sums, ok = append(sums, sum), ok && step && found && told
			}
			for _, rounds := range append(wrongCounts(8), 1<<32) {
				want(t, fmt.Sprint("orbit ", i, ", rounds ", rounds), fitTold(impl.FitOrbit(row[1], 1.5, list, rounds)), "fail")
			}
		}
	}
}

func TestNoRounds(t *testing.T) {
	for i, o := range append(orbits(), ordinaryOrbits()...) {
		_, _, ok := impl.StateOf(o, 1.5)
		want(t, fmt.Sprint("orbit ", i), fitTold(impl.FitOrbit(o, 1.5, nil, 0)), fitTold(o, nil, ok))
	}
	want(t, "a speed that is not finite", fitTold(impl.FitOrbit(impl.Orbit{Long: number(leastBits)}, number(mostBits), nil, 0)), "fail")
	want(t, "looks that can't be told", fitTold(impl.FitOrbit(impl.Orbit{Long: -1, Round: 2}, 1, []impl.Look{lookOf(1e30, 0, 0, 1, 1)}, 0)), fitTold(impl.Orbit{Long: -1, Round: 2}, nil, true))
}

func TestFitsThatFail(t *testing.T) {
	branch, l := impl.Orbit{Long: -1, Round: 2}, lookOf(0, 0, 0, 1, 1)
	want(t, "looks that can't be told", fitTold(impl.FitOrbit(branch, 1, []impl.Look{l, lookOf(1e30, 0, 0, 1, 1)}, 1)), "fail")
	want(t, "a place whose looks are not finite", fitTold(impl.FitOrbit(impl.Orbit{Long: 2e19}, 1e38, []impl.Look{l}, 1)), "fail")
	want(t, "the same, no looks", fitTold(impl.FitOrbit(impl.Orbit{Long: 1e-30}, 1e-30, nil, 1)) != "fail", true)
	// The first step leads to a place from where the next one fails.
	far := []impl.Look{lookOf(1, 0.2, 0, 1e6, 1)}
	for rounds, fails := range []bool{false, false, true, true} {
		want(t, fmt.Sprint("a look that is far away, rounds ", rounds), fitTold(impl.FitOrbit(impl.Orbit{Long: 1}, 1, far, int64(rounds))) == "fail", fails)
	}
}

// Fits come nearer to the looks, and where these are exact, to the orbit.
func TestFitsConverge(t *testing.T) {
	for i, row := range starts() {
		times := []float32{-1.5, -1, -0.5, 0, 0.25, 0.5, 0.75, 1, 1.25, 1.5, 2}
		list := exactLooks(row[0], 1.5, times...)
		before, _ := impl.SquareOfMisses(row[1], 1.5, list)
		o, sums, ok := impl.FitOrbit(row[1], 1.5, list, 8)
		want(t, fmt.Sprint("orbit ", i, ": ", before, sums), ok && len(sums) == 8 && sums[0] < before && sums[7] < 1e-8, true)
		at, speed, _ := impl.StateOf(row[0], 1.5)
		found, fast, _ := impl.StateOf(o, 1.5)
		wantNearState(t, fmt.Sprint("orbit ", i), found, fast, at, speed, 1e-3)
		noisy, _, _ := impl.NoisyLooks(row[0], 1.5, times, 0.01, 3)
		least, _ := impl.SquareOfMisses(row[0], 1.5, noisy)
		_, sums, ok = impl.FitOrbit(row[1], 1.5, noisy, 8)
		want(t, fmt.Sprint("orbit ", i, ", noisy: ", least, sums), ok && sums[7] < least, true)
	}
}
