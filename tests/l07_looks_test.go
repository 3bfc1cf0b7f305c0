package tests

import (
	"fmt"
	"math"
	"slices"
	"testing"

	"loop.example/g01284/impl"
)

func aLook() impl.Look { return lookOf(0.7, 0.2, -0.05, 1.3, 2) }

func fieldsOfLook(l *impl.Look) []*float32 {
	return []*float32{&l.Time, &l.Right, &l.Up, &l.Far, &l.Weight}
}

func changedLook(l impl.Look, field int, x float32) impl.Look {
	*fieldsOfLook(&l)[field] = x
	return l
}

// wrongLooks has looks of which one number is not as it must be.
func wrongLooks() []impl.Look {
	var wrong []impl.Look
	for field := range 5 {
		for _, x := range wrongNumbers() {
			wrong = append(wrong, changedLook(aLook(), field, x))
		}
	}
	for _, x := range []float32{-number(leastBits), -1, -number(mostBits)} {
		wrong = append(wrong, changedLook(aLook(), 4, x))
	}
	return wrong
}

// wrongLookLists has lists that are too long, or have one look that is none.
func wrongLookLists() [][]impl.Look {
	wrong := [][]impl.Look{repeated(aLook(), impl.MaxLooks+1)}
	for _, l := range wrongLooks() {
		wrong = append(wrong, []impl.Look{l}, []impl.Look{aLook(), l}, []impl.Look{l, aLook(), aLook()})
	}
	return wrong
}

// exactLooks has LookAt some times.
func exactLooks(o impl.Orbit, mass float32, times ...float32) []impl.Look {
	var list []impl.Look
	for _, time := range times {
		l, _ := impl.LookAt(o, mass, time)
		list = append(list, l)
	}
	return list
}

func TestExamplesOfChapter7(t *testing.T) {
	for _, time := range []float32{0, number(minusZero)} {
		want(t, "a circle", lookTold(impl.LookAt(impl.Orbit{Long: 1}, 1, time)), lookText(lookOf(time, 0, 0, 1, 1)))
	}
	stored, ok := impl.StoreEntry(entryOf("moon", 1, impl.Orbit{Long: 1}))
	want(t, "an entry", ok && len(stored) == 39, true)
}

func TestLimitsOfChapter7(t *testing.T) {
	want(t, "MaxLooks", impl.MaxLooks, 24)
	want(t, "MaxEntries", impl.MaxEntries, 16)
}

func TestAreLooks(t *testing.T) {
	least, most, less := number(leastBits), number(mostBits), number(minusZero)
	for _, l := range []impl.Look{
		aLook(), {}, lookOf(less, less, less, less, less), lookOf(most, -most, most, -most, most), lookOf(-most, most, -most, most, least), lookOf(-1, 7, -3, -2, 0),
	} {
		want(t, fmt.Sprint(l), impl.AreLooks([]impl.Look{l}), true)
		want(t, fmt.Sprint("the most looks, ", l), impl.AreLooks(repeated(l, impl.MaxLooks)), true)
		want(t, fmt.Sprint("one more, ", l), impl.AreLooks(repeated(l, impl.MaxLooks+1)), false)
	}
	want(t, "none", impl.AreLooks(nil) && impl.AreLooks([]impl.Look{}), true)
	for i, list := range wrongLookLists() {
		want(t, fmt.Sprint("wrong list ", i), impl.AreLooks(list), false)
	}
}

func TestSameLooks(t *testing.T) {
	numbers := []float32{0, number(minusZero), 1, -1, number(leastBits), number(nanBits), number(0xffc00001), number(lessInf)}
	for field := range 5 {
		for _, x := range numbers {
			for _, y := range numbers {
				a, b := changedLook(aLook(), field, x), changedLook(aLook(), field, y)
				same := bitsOf(x) == bitsOf(y)
				want(t, fmt.Sprint(a, b), impl.SameLooks([]impl.Look{a}, []impl.Look{b}), same)
				want(t, fmt.Sprint("behind another, ", a, b), impl.SameLooks([]impl.Look{aLook(), a}, []impl.Look{aLook(), b}), same)
			}
		}
	}
	one, two := []impl.Look{aLook()}, []impl.Look{aLook(), {}}
	want(t, "none", impl.SameLooks(nil, []impl.Look{}), true)
	want(t, "one and none", impl.SameLooks(one, nil) || impl.SameLooks(nil, one), false)
	want(t, "one and two", impl.SameLooks(one, two) || impl.SameLooks(two, one), false)
	want(t, "another order", impl.SameLooks(two, []impl.Look{{}, aLook()}), false)
	many := repeated(wrongLooks()[0], impl.MaxLooks+9)
	want(t, "what are no looks", impl.SameLooks(many, slices.Clone(many)), true)
}

func TestLooksFailForWrongArguments(t *testing.T) {
	list := []impl.Look{aLook(), lookOf(-1, 0.3, 0, 2, 0)}
	look := call{"LookAt", impl.LookAt, []any{anEllipse(), float32(1.5), float32(0.7)}}
	noisy := call{"NoisyLooks", impl.NoisyLooks, []any{anEllipse(), float32(1.5), []float32{0.7, -2}, float32(0.1), int64(7)}}
	miss := call{"MissOf", impl.MissOf, []any{anEllipse(), float32(1.5), aLook()}}
	sum := call{"SquareOfMisses", impl.SquareOfMisses, []any{anEllipse(), float32(1.5), list}}
	worst := call{"WorstLook", impl.WorstLook, []any{anEllipse(), float32(1.5), list}}
	for _, c := range []call{look, noisy, miss, sum, worst, {"WeighLooks", impl.WeighLooks, []any{list, float32(2)}}} {
		c.wantFailingTypes(t)
	}
	drop := []any{anEllipse(), float32(1.5), list, float32(1)}
	wantFailing(t, "DropLooks, orbits", impl.DropLooks, drop, 0, wrongOrbits())
	wantFailing(t, "DropLooks, lists", impl.DropLooks, drop, 2, wrongLookLists())
	for _, c := range []call{look, noisy, miss, sum, worst, {"DropLooks", impl.DropLooks, drop}} {
		wantFailing(t, c.name+", masses", c.f, c.list, 1, wrongMasses())
	}
	below := []float32{-number(leastBits), -1, -number(mostBits)}
	wantFailing(t, "NoisyLooks, sizes", impl.NoisyLooks, noisy.list, 3, below)
	for _, l := range [][]impl.Look{list, nil, {lookOf(1, 2, 3, 4, 0)}} {
		wantFailing(t, "WeighLooks, factors", impl.WeighLooks, []any{l, float32(2)}, 1, append(wrongNumbers(), below...))
	}
	wantFailing(t, "WeighLooks, lists", impl.WeighLooks, []any{list, float32(0)}, 0, wrongLookLists())
	wantFailing(t, "NoisyLooks, seeds", impl.NoisyLooks, noisy.list, 4, []int64{-1, 2147483648, 1 << 32, math.MinInt64, math.MaxInt64})
	wrongTimes := [][]float32{make([]float32, impl.MaxLooks+1)}
	for _, x := range wrongNumbers() {
		wrongTimes = append(wrongTimes, []float32{x}, []float32{0, 1, x}, []float32{x, 1})
	}
	wantFailing(t, "NoisyLooks, times", impl.NoisyLooks, noisy.list, 2, wrongTimes)
}

// No looks need a valid orbit and a mass, too.
func TestNoLooksFailForWrongArguments(t *testing.T) {
	for _, list := range []any{[]impl.Look(nil), []impl.Look{}} {
		for _, c := range []call{
			{"SquareOfMisses", impl.SquareOfMisses, []any{anEllipse(), float32(1.5), list}},
			{"DropLooks", impl.DropLooks, []any{anEllipse(), float32(1.5), list, float32(1)}},
			{"NoisyLooks", impl.NoisyLooks, []any{anEllipse(), float32(1.5), []float32(nil), float32(0.1), int64(7)}},
		} {
			wantFailing(t, c.name+", orbits", c.f, c.list, 0, wrongOrbits())
			wantFailing(t, c.name+", masses", c.f, c.list, 1, wrongMasses())
		}
	}
}

func TestLookAt(t *testing.T) {
	for i, o := range append(ordinaryOrbits(), circlesAndPlanes()...) {
		for _, mass := range []float32{1, 0.3, 40} {
			for _, time := range []float32{0, 0.01, -0.02} {
				what := fmt.Sprint("orbit ", i, ", the mass ", mass, ", the time ", time)
				later, _ := impl.LaterOrbit(o, mass, time)
				at, _, _ := impl.StateOf(later, mass)
				l, ok := impl.LookAt(o, mass, time)
				beside := impl.SizeOfVector(vectorOf(at.X, at.Y, 0))
				want(t, what, lookTold(l, ok), lookText(lookOf(time, impl.AngleTurns(at.Y, at.X), impl.AngleTurns(at.Z, beside), impl.SizeOfVector(at), 1)))
				x, y, z := float64(at.X), float64(at.Y), float64(at.Z)
				want(t, what+", Right", turnsApart(l.Right, float32(math.Atan2(y, x)/2/math.Pi)) < 1e-6, true)
				want(t, what+", Up", near(float64(l.Up), math.Atan2(z, math.Hypot(x, y))/2/math.Pi, 1e-6), true)
				want(t, what+", Far", near(float64(l.Far), math.Hypot(z, math.Hypot(x, y)), 1e-6*float64(l.Far)), true)
			}
		}
	}
}

func TestLooksAroundTheAxis(t *testing.T) {
	for _, row := range []struct {
		what      string
		orbit     impl.Orbit
		right, up float32
	}{
		{"ahead", impl.Orbit{Long: 2}, 0, 0},
		{"a quarter turn", impl.Orbit{Long: 2, Phase: 0.25}, 0.25, 0},
		{"half a turn", impl.Orbit{Long: 2, Phase: 0.5}, 0.5, 0},
		{"just below half a turn", impl.Orbit{Long: 2, Phase: 0.49999997}, number(0x3effffff), 0},
		{"three quarters", impl.Orbit{Long: 2, Phase: 0.75}, -0.25, 0},
		{"on the axis", impl.Orbit{Long: 2, Tilt: 0.25, Phase: 0.25}, 0, 0.25},
		{"on the other end of the axis", impl.Orbit{Long: 2, Tilt: 0.25, Phase: 0.75}, 0, -0.25},
		{"on the axis, turned", impl.Orbit{Long: 2, Tilt: 0.25, Peri: 0.25}, 0, 0.25},
	} {
		want(t, row.what, lookTold(impl.LookAt(row.orbit, 1, 0)), lookText(lookOf(0, row.right, row.up, 2, 1)))
	}
	for phase, right := range map[float32]float64{0.2499: 0, 0.2501: 0.5, 0.7499: 0.5, 0.7501: 0} {
		l, ok := impl.LookAt(impl.Orbit{Long: 2, Tilt: 0.25, Phase: phase}, 1, 0)
		beside := 0.25 - math.Abs(float64(l.Up))
		want(t, fmt.Sprint("beside the axis, ", phase), ok && turnsApart(l.Right, float32(right)) < 1e-6 && near(beside, 1e-4, 1e-6), true)
	}
}

func TestLooksThatFail(t *testing.T) {
	far, beyond := number(bitsOf(0x1p64)-1), float32(0x1p64)
	most := number(mostBits)
	want(t, "the farthest circle", lookTold(impl.LookAt(impl.Orbit{Long: far}, 1, 0)), lookText(lookOf(0, 0, 0, far, 1)))
	for what, row := range map[string]struct {
		orbit      impl.Orbit
		mass, time float32
	}{
		"a circle that is too far":           {impl.Orbit{Long: beyond}, 1, 0},
		"one beside the axis":                {impl.Orbit{Long: beyond, Phase: 0.25}, 1, 0},
		"one over the pole":                  {impl.Orbit{Long: beyond, Tilt: 0.25, Phase: 0.25}, 1, 0},
		"a branch beyond its phases":         {impl.Orbit{Long: -1, Round: 2, Phase: 15.9}, 1, 1},
		"a place that is not finite":         {impl.Orbit{Long: -most, Round: most, Phase: 16}, 1, 0},
		"a speed that is not finite":         {impl.Orbit{Long: number(leastBits)}, most, 0},
		"a branch, a phase that is too much": {impl.Orbit{Long: -1, Round: 2}, 1, most},
	} {
		want(t, what, lookTold(impl.LookAt(row.orbit, row.mass, row.time)), "fail")
		want(t, what+", noisy", noisyTold(impl.NoisyLooks(row.orbit, row.mass, []float32{row.time}, 0, 0)), "fail")
		miss := threeTold(impl.MissOf(row.orbit, row.mass, lookOf(row.time, 0, 0, 1, 1)))
		want(t, what+", missed", miss, "fail")
		list := []impl.Look{lookOf(row.time, 0, 0, 1, 0)}
		want(t, what+", squares", numberTold(impl.SquareOfMisses(row.orbit, row.mass, list)), "fail")
		want(t, what+", the worst", worstTold(impl.WorstLook(row.orbit, row.mass, list)), "fail")
		want(t, what+", dropped", looksTold(impl.DropLooks(row.orbit, row.mass, list, 1)), "fail")
	}
	branch := impl.Orbit{Long: -1, Round: 2, Phase: 15.9}
	want(t, "only the last time fails", noisyTold(impl.NoisyLooks(branch, 1, []float32{0, -1, 1}, 0, 0)), "fail")
}

// drawnOf tells what is drawn from a seed, with numbers of 32 bits that wrap.
func drawnOf(seed uint32) (float32, uint32) {
	seed = (1103515245*seed + 12345) & 0x7fffffff
	return float32(int(seed>>16)-16384) / 16384, seed
}

func TestNoisyLooks(t *testing.T) {
	o := anEllipse()
	for _, start := range []uint32{0, 1, 2, 77, 12345, 65535, 65536, 1 << 30, 2147483646, 2147483647} {
		for _, size := range []float32{0, number(minusZero), 0.25, 3, 1e-3, number(leastBits)} {
			for _, count := range []int{0, 1, 2, impl.MaxLooks} {
				what := fmt.Sprint("seed ", start, ", size ", size, ", looks ", count)
				times, seed := make([]float32, count), start
				var list []impl.Look
				for i := range times {
					times[i] = float32(i)*0.7 - 3
					l, _ := impl.LookAt(o, 1.5, times[i])
					for field := 1; field <= 3; field++ {
						drawn, next := drawnOf(seed)
						x := fieldsOfLook(&l)[field]
						*x, seed = *x+float32(size*drawn), next
					}
					list = append(list, l)
				}
				told := noisyTold(impl.NoisyLooks(o, 1.5, times, size, int64(start)))
				want(t, what, told, noisyTold(list, int64(seed), true))
			}
		}
	}
	want(t, "no times", noisyTold(impl.NoisyLooks(o, 1.5, nil, 1, 2147483647)), " 2147483647")
}

// What is drawn goes from -1 to less than 1. The seed 0 draws -1 at first.
func TestNoiseIsEven(t *testing.T) {
	l, _, ok := impl.NoisyLooks(impl.Orbit{Long: 1}, 1, []float32{0}, 1, 0)
	want(t, "the seed 0", ok && l[0].Right == -1, true)
	low, high, sum, count := 0.0, 0.0, 0.0, 0.0
	for seed := int64(0); seed < 2000000000; seed += 1234567 {
		list, _, _ := impl.NoisyLooks(impl.Orbit{Long: 1}, 1, []float32{0}, 1, seed)
		for _, x := range []float32{list[0].Right, list[0].Up, list[0].Far - 1} {
			low, high, sum, count = min(low, float64(x)), max(high, float64(x)), sum+float64(x), count+1
		}
	}
	want(t, fmt.Sprint("it goes from ", low, " to ", high), low >= -1 && low < -0.99 && high < 1 && high > 0.99, true)
	want(t, fmt.Sprint("its middle is ", sum/count), near(sum/count, 0, 0.05), true)
}

func TestMissesOfRight(t *testing.T) {
	least, most, belowHalf, aboveHalf := number(leastBits), number(mostBits), number(0x3effffff), number(0x3f000001)
	for _, row := range []struct{ phase, right, miss float32 }{
		{0, 0, 0}, {0, number(minusZero), number(minusZero)}, {0, 0.25, 0.25}, {0, -0.25, -0.25}, {0, least, least}, {0, -least, -least},
		// Half a turn, and what is next to it.
		{0, 0.5, -0.5}, {0, -0.5, -0.5}, {0, belowHalf, belowHalf}, {0, -belowHalf, -belowHalf}, {0, aboveHalf, -0.5 + 0x1p-24}, {0, -aboveHalf, 0.5 - 0x1p-24},
		{0, 0.75, -0.25}, {0, -0.75, 0.25}, {0, 1, 0}, {0, -1, 0}, {0, 1.5, -0.5}, {0, -1.5, -0.5}, {0, 7.125, 0.125}, {0, -7.125, -0.125},
		{0, 8388607.5, -0.5}, {0, -8388607.5, -0.5}, {0, 8388609, 0}, {0, -16777215, 0}, {0, most, 0}, {0, -most, 0},
		{0.25, 0.25, 0}, {0.25, -0.25, -0.5}, {0.75, 0.25, -0.5}, {0.75, -0.5, -0.25}, {0.5, -0.5, 0}, {0.5, 0.5, 0}, {0.5, -0.25, 0.25}, {0.5, 0, -0.5},
		// The difference is rounded to half a turn before anything is taken away.
		{0.75, 0.25 - 0x1p-26, -0.5}, {0.75, 0.25 - 0x1p-25, belowHalf}, {0.75, 0.25 + 0x1p-25, -0.5}, {0.75, 0.25 + 0x1p-24, -0.5 + 0x1p-24},
		{0.25, -0.25 + 0x1p-26, -0.5}, {0.25, -0.25 + 0x1p-25, -belowHalf}, {0.25, -0.25 - 0x1p-25, -0.5}, {0.25, -0.25 - 0x1p-24, 0.5 - 0x1p-24},
		{0.25, least, -0.25}, {0.75, 8388607.5, 0}, {0.25, 8388607.5, 0}, {0.75, 4194303.75, 0}, {0.25, 4194303.75, -0.5},
	} {
		what := fmt.Sprint("the phase ", row.phase, ", Right ", row.right)
		l := lookOf(0, row.right, 0, 1, 1)
		want(t, what, threeTold(impl.MissOf(impl.Orbit{Long: 1, Phase: row.phase}, 1, l)), numbersTold([]float32{row.miss, 0, 0}, true))
	}
}

func TestMissOf(t *testing.T) {
	most, less := number(mostBits), number(minusZero)
	for i, o := range append(ordinaryOrbits(), circlesAndPlanes()...) {
		for _, l := range exactLooks(o, 1.5, 0, 0.01, -0.02) {
			what := fmt.Sprint("orbit ", i, ", the time ", l.Time)
			want(t, what, threeTold(impl.MissOf(o, 1.5, l)), numbersTold([]float32{0, 0, 0}, true))
			other := lookOf(l.Time, l.Right+0.125, l.Up-3, 2*l.Far, 7)
			a, b, c, ok := impl.MissOf(o, 1.5, other)
			want(t, what+", Right", ok && near(float64(a), 0.125, 1e-6), true)
			want(t, what+", Up is not wrapped", numberText(b), numberText(other.Up-l.Up))
			want(t, what+", Far", numberText(c), numberText(l.Far))
			for turns := float32(-3); turns <= 3; turns++ {
				a, _, _, _ := impl.MissOf(o, 1.5, lookOf(l.Time, l.Right+turns, l.Up, l.Far, 1))
				want(t, fmt.Sprint(what, ", turns ", turns), near(float64(a), 0, 1e-6), true)
			}
		}
	}
	for _, weight := range []float32{0, less, 1, most} {
		l := lookOf(0, less, less, 3, weight)
		want(t, fmt.Sprint("the Weight ", weight), threeTold(impl.MissOf(impl.Orbit{Long: 2}, 1, l)), numbersTold([]float32{less, less, 1}, true))
	}
	great := lookOf(0, 0, most, -most, 1)
	want(t, "great numbers", threeTold(impl.MissOf(impl.Orbit{Long: 2}, 1, great)), numbersTold([]float32{0, most, -most}, true))
}

// squaresOf tells what SquareOfMisses adds.
func squaresOf(o impl.Orbit, mass float32, list []impl.Look) []float32 {
	var squares []float32
	for _, l := range list {
		a, b, c, _ := impl.MissOf(o, mass, l)
		squares = append(squares, l.Weight*impl.InnerOf(vectorOf(a, b, c), vectorOf(a, b, c)))
	}
	return squares
}

// someLooks has looks that miss an orbit more or less, along nearly a turn.
func someLooks(o impl.Orbit, mass float32, count int) []impl.Look {
	times := make([]float32, count)
	rate, _ := impl.RateOf(o, mass)
	for i := range times {
		times[i] = (float32(i)*0.3 - 2) / rate
	}
	list, _, _ := impl.NoisyLooks(o, mass, times, 0.2, 99)
	for i := range list {
		list[i].Weight = float32(i%5) * 0.75
	}
	return list
}

func TestSquareOfMisses(t *testing.T) {
	for i, o := range []impl.Orbit{anEllipse(), aBranch(), {Long: 1}, {Long: 2, Tilt: 0.25}} {
		for _, count := range []int{0, 1, 2, 7, impl.MaxLooks} {
			list := someLooks(o, 1.5, count)
			sum := float32(0)
			for _, square := range squaresOf(o, 1.5, list) {
				sum += square
			}
			want(t, fmt.Sprint("orbit ", i, ", looks ", count), numberTold(impl.SquareOfMisses(o, 1.5, list)), numberText(sum))
		}
		want(t, fmt.Sprint("orbit ", i, ", looks that fit"), numberTold(impl.SquareOfMisses(o, 1.5, exactLooks(o, 1.5, -1, 0, 1))), numberText(0))
	}
	circle, less := impl.Orbit{Long: 1}, number(minusZero)
	want(t, "one of 2", numberTold(impl.SquareOfMisses(circle, 1, []impl.Look{lookOf(0, 0.5, 2, 4, 2)})), numberText(26.5))
	want(t, "the Weight 0", numberTold(impl.SquareOfMisses(circle, 1, []impl.Look{lookOf(0, 0, 0, 4, 0), lookOf(0, 0, 0, 2, 3)})), numberText(3))
	want(t, "the Weight -0", numberTold(impl.SquareOfMisses(circle, 1, []impl.Look{lookOf(0, 0, 0, 4, less)})), numberText(0))
	want(t, "a square that is 0", numberTold(impl.SquareOfMisses(circle, 1, []impl.Look{lookOf(0, 1e-30, 0, 1, 1e30)})), numberText(0))
}

// Squares are greater than all numbers from Far = 2 to the power of 64 on.
func TestSquaresThatAreNotFinite(t *testing.T) {
	far, beyond := number(bitsOf(0x1p64)-1), float32(0x1p64)
	circle, fits := impl.Orbit{Long: 1}, lookOf(0, 0, 0, 2, 1)
	want(t, "the farthest look", numberTold(impl.SquareOfMisses(circle, 1, []impl.Look{lookOf(0, 0, 0, far, 1)})), numberText(far*far))
	want(t, "two of them", numberTold(impl.SquareOfMisses(circle, 1, []impl.Look{lookOf(0, 0, 0, far, 1), lookOf(0, 0, 0, far, 1)})), "fail")
	want(t, "a Weight that is too great", numberTold(impl.SquareOfMisses(circle, 1, []impl.Look{lookOf(0, 0, 0, far, 1.5)})), "fail")
	for _, weight := range []float32{0, 1e-30, 1} {
		none := lookOf(0, 0, 0, beyond, weight)
		list := []impl.Look{fits, none, fits}
		want(t, fmt.Sprint("a look too far, Weight ", weight), numberTold(impl.SquareOfMisses(circle, 1, list)), "fail")
		want(t, fmt.Sprint("it is the only one, Weight ", weight), worstTold(impl.WorstLook(circle, 1, []impl.Look{none})), "fail")
	}
	want(t, "the worst is not finite", worstTold(impl.WorstLook(circle, 1, []impl.Look{fits, lookOf(0, 0, 0, beyond, 1e-30)})), "fail")
	// 0 times what is not finite is a not-a-number, which is never the greatest.
	none := lookOf(0, 0, 0, beyond, 0)
	want(t, "a not-a-number", worstTold(impl.WorstLook(circle, 1, []impl.Look{fits, none})), worstTold(0, 1, true))
	want(t, "a not-a-number in front", worstTold(impl.WorstLook(circle, 1, []impl.Look{none, fits})), worstTold(1, 1, true))
	want(t, "the other is 0", worstTold(impl.WorstLook(circle, 1, []impl.Look{none, lookOf(0, 0, 0, 1, 1)})), worstTold(1, 0, true))
}

func TestWorstLook(t *testing.T) {
	for i, o := range []impl.Orbit{anEllipse(), aBranch(), {Long: 1}, {Long: 2, Tilt: 0.25}} {
		for _, count := range []int{1, 2, 7, impl.MaxLooks} {
			list := someLooks(o, 1.5, count)
			squares := squaresOf(o, 1.5, list)
			most := slices.Max(squares)
			want(t, fmt.Sprint("orbit ", i, ", looks ", count), worstTold(impl.WorstLook(o, 1.5, list)), worstTold(int64(slices.Index(squares, most)), most, true))
		}
	}
	circle, less := impl.Orbit{Long: 1}, number(minusZero)
	of := func(weights ...float32) string {
		var list []impl.Look
		for _, weight := range weights {
			list = append(list, lookOf(0, 0, 0, 3, weight))
		}
		return worstTold(impl.WorstLook(circle, 1, list))
	}
	want(t, "none", of(), "fail")
	want(t, "one", of(2), worstTold(0, 8, true))
	want(t, "the last", of(1, 2, 3), worstTold(2, 12, true))
	want(t, "the first of several", of(1, 3, 2, 3, 3), worstTold(1, 12, true))
	want(t, "all the same", of(2, 2, 2), worstTold(0, 8, true))
	want(t, "Weights of 0", of(0, 0), worstTold(0, 0, true))
	want(t, "both zeros", of(less, 0), worstTold(0, less, true))
	want(t, "the most looks", of(repeated(float32(1), impl.MaxLooks)...), worstTold(0, 4, true))
	want(t, "one more", of(repeated(float32(1), impl.MaxLooks+1)...), "fail")
}

func TestDropLooks(t *testing.T) {
	for i, o := range []impl.Orbit{anEllipse(), aBranch(), {Long: 1}, {Long: 2, Tilt: 0.25}} {
		for _, count := range []int{0, 1, 2, 7, impl.MaxLooks} {
			list := someLooks(o, 1.5, count)
			squares := squaresOf(o, 1.5, list)
			for _, limit := range append([]float32{0, 0.01, 0.03, 1}, squares...) {
				var kept []impl.Look
				for k, l := range list {
					if squares[k] <= limit {
						kept = append(kept, l)
					}
				}
				want(t, fmt.Sprint("orbit ", i, ", looks ", count, ", limit ", limit), looksTold(impl.DropLooks(o, 1.5, list, limit)), looksText(kept))
			}
		}
	}
}

func TestLimitsOfDropLooks(t *testing.T) {
	circle, less, most := impl.Orbit{Long: 1}, number(minusZero), number(mostBits)
	fits, misses, none, far := lookOf(0, less, less, 1, 1), lookOf(0, 0, 0, 3, 2), lookOf(0, 0, 0, 9, less), lookOf(0, 0, 0, 1e20, 1)
	list := []impl.Look{misses, fits, none, far, misses}
	for _, row := range []struct {
		what  string
		limit float32
		kept  []impl.Look
	}{
		{"met exactly", 8, []impl.Look{misses, fits, none, misses}},
		{"just below", number(bitsOf(8) - 1), []impl.Look{fits, none}},
		{"0", 0, []impl.Look{fits, none}},
		{"-0", less, []impl.Look{fits, none}},
		{"just below 0", -number(leastBits), nil},
		{"below 0", -1, nil},
		{"the most", most, []impl.Look{misses, fits, none, misses}},
		{"not finite", number(infBits), list},
		{"not finite, below 0", number(lessInf), nil},
		{"a not-a-number", number(nanBits), nil},
	} {
		want(t, "a limit that is "+row.what, looksTold(impl.DropLooks(circle, 1, list, row.limit)), looksText(row.kept))
	}
	want(t, "a square that is a not-a-number", looksTold(impl.DropLooks(circle, 1, []impl.Look{lookOf(0, 0, 0, 1e20, 0), fits}, number(infBits))), looksText([]impl.Look{fits}))
	want(t, "none", looksTold(impl.DropLooks(circle, 1, nil, 1)), "")
	_, ok := impl.DropLooks(circle, 1, nil, -1)
	want(t, "none, and a limit below 0", ok, true)
}

func TestWeighLooks(t *testing.T) {
	least, small, most, less := number(leastBits), number(subnormal), number(mostBits), number(minusZero)
	for _, weight := range []float32{0, less, 1, 0.1, 3, least, small, 1e19, most} {
		for _, by := range []float32{0, less, 1, 0.1, 3, 0.5, least, 1e-19, 1e19, most} {
			list := []impl.Look{lookOf(1, 2, 3, 4, 1), lookOf(less, -1, least, -most, weight)}
			want1, want2 := lookOf(1, 2, 3, 4, by), lookOf(less, -1, least, -most, weight*by)
			told := looksText([]impl.Look{want1, want2})
			if !impl.IsFinite(weight * by) {
				told = "fail"
			}
			want(t, fmt.Sprint("Weight ", weight, ", by ", by), looksTold(impl.WeighLooks(list, by)), told)
		}
	}
	for _, count := range []int{0, 1, impl.MaxLooks} {
		list := repeated(aLook(), count)
		want(t, fmt.Sprint("looks ", count), looksTold(impl.WeighLooks(list, 1)), looksText(list))
	}
	_, ok := impl.WeighLooks(nil, 2)
	want(t, "none", ok, true)
	_, ok = impl.WeighLooks(repeated(aLook(), impl.MaxLooks+1), 2)
	want(t, "one more", ok, false)
}
