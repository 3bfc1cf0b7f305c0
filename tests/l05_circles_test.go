package tests

import (
	"fmt"
	"math"
	"reflect"
	"testing"

	"loop.example/g01284/impl"
)

// resultsOf calls f and tells its results without the last one, which tells
// whether it has succeeded.
func resultsOf(f any, arguments []any) (string, bool) {
	var in []reflect.Value
	for _, x := range arguments {
		in = append(in, reflect.ValueOf(x))
	}
	out := reflect.ValueOf(f).Call(in)
	last := len(out) - 1
	return textsOf(out[:last]), out[last].Bool()
}

// wantFailing wants f to fail, and to return zeros, for each of some values in
// place of one of its arguments, with which it succeeds.
func wantFailing[T any](t *testing.T, what string, f any, arguments []any, place int, wrong []T) {
	t.Helper()
	_, ok := resultsOf(f, arguments)
	want(t, what, ok, true)
	zeros := ""
	for i := range reflect.TypeOf(f).NumOut() - 1 {
		if i > 0 {
			zeros += "; "
		}
		zeros += textOf(reflect.Zero(reflect.TypeOf(f).Out(i)))
	}
	for _, x := range wrong {
		changed := append([]any(nil), arguments...)
		changed[place] = x
		told, ok := resultsOf(f, changed)
		want(t, fmt.Sprint(what, ", ", x, " as argument ", place), told, zeros)
		want(t, fmt.Sprint(what, ", ", x, " as argument ", place), ok, false)
	}
}

// arguments has a function of chapter 5, and numbers for it.
type arguments struct {
	name string
	f    any
	list []any
	// above are the places of numbers that are greater than 0, and others
	// those of finite ones.
	above, others []int
}

func (a arguments) wantFailingNumbers(t *testing.T) {
	t.Helper()
	for _, place := range a.above {
		wantFailing(t, a.name, a.f, a.list, place, wrongMasses())
	}
	for _, place := range a.others {
		wantFailing(t, a.name, a.f, a.list, place, wrongNumbers())
	}
}

func numbersOf(list ...float32) []any {
	var out []any
	for _, x := range list {
		out = append(out, x)
	}
	return out
}

func TestExamplesOfChapter5(t *testing.T) {
	want(t, "the speed of a circle", numberTold(impl.CircleSpeed(1, 1)), numberText(1))
	want(t, "the speed that lets a ship escape", numberTold(impl.EscapeSpeed(1, 1)), numberText(1.4142135))
	turn, ok := impl.FlybyTurn(1, 1, 1)
	want(t, "a flyby", ok && near(float64(turn), 1.0/6, 1e-7), true)
}

func TestNumbersOfCircles(t *testing.T) {
	for _, a := range []arguments{
		{"CircleSpeed", impl.CircleSpeed, numbersOf(4, 2), []int{0, 1}, nil},
		{"EscapeSpeed", impl.EscapeSpeed, numbersOf(4, 2), []int{0, 1}, nil},
		{"TwoBurns", impl.TwoBurns, numbersOf(4, 2, 1), []int{0, 1, 2}, nil},
		{"ThreeBurns", impl.ThreeBurns, numbersOf(4, 2, 1, 3), []int{0, 1, 2, 3}, nil},
		{"BestBy", impl.BestBy, append(numbersOf(4, 2, 1), []float32{5, 6}), []int{0, 1, 2}, nil},
		{"PhaseOrbit", impl.PhaseOrbit, append(numbersOf(4, 2, 0.5), int64(2)), []int{0, 1}, []int{2}},
		{"LeadOf", impl.LeadOf, numbersOf(4, 2, 1), []int{0, 1, 2}, nil},
		{"WindowOf", impl.WindowOf, numbersOf(4, 2, 1, 0.3), []int{0, 1, 2}, []int{3}},
		{"TiltBurn", impl.TiltBurn, numbersOf(4, 2), []int{0}, []int{1}},
		{"MixedBurn", impl.MixedBurn, numbersOf(4, 2, 1), []int{0, 1}, []int{2}},
	} {
		a.wantFailingNumbers(t)
	}
}

func TestSpeedsOfCircles(t *testing.T) {
	most, least := number(mostBits), number(leastBits)
	want(t, "a circle", numberTold(impl.CircleSpeed(9, 0.25)), numberText(6))
	want(t, "a greater one", numberTold(impl.CircleSpeed(0x1p100, 0x1p-20)), numberText(0x1p60))
	want(t, "an escape", numberTold(impl.EscapeSpeed(8, 0.25)), numberText(8))
	want(t, "a mass whose double is not a 32-bit number", numberTold(impl.EscapeSpeed(0x1p127, 1)), numberText(0x1p64))
	want(t, "subnormal numbers", numberTold(impl.CircleSpeed(least, least)), numberText(1))
	want(t, "a circle that is too fast", numberTold(impl.CircleSpeed(most, least)), "fail")
	want(t, "an escape that is too fast", numberTold(impl.EscapeSpeed(most, least)), "fail")
	// The last speed that is less than 2 to the power of 128, and the first one
	// that is not: the squares of these speeds are the quotients.
	want(t, "the fastest circle", numberTold(impl.CircleSpeed(number(0x7f7ffffe), 0x1p-128)), numberText(most))
	want(t, "one that is just too fast", numberTold(impl.CircleSpeed(0x1p127, 0x1p-129)), "fail")
}

// TestBurnsLeadBetweenCircles adds the burns to the speeds of circles and
// looks at what chapter 3 tells of the orbits between.
func TestBurnsLeadBetweenCircles(t *testing.T) {
	for i, c := range transfers()[:8] {
		what := fmt.Sprint("row ", i)
		first, second, time, ok := impl.TwoBurns(c.mass, c.from, c.to)
		start, _ := impl.CircleSpeed(c.mass, c.from)
		end, _ := impl.CircleSpeed(c.mass, c.to)
		way := impl.Orbit{Long: (c.from + c.to) / 2, Round: float32(math.Abs(float64(c.to-c.from)) / float64(c.to+c.from))}
		leaving, fits := impl.SpeedAt(way, c.mass, c.from)
		arriving, _ := impl.SpeedAt(way, c.mass, c.to)
		period, _ := impl.PeriodOf(way, c.mass)
		want(t, what, ok && fits, true)
		want(t, what+", it leaves", near(float64(start+first), float64(leaving), 1e-6*float64(leaving)), true)
		want(t, what+", it arrives", near(float64(arriving+second), float64(end), 1e-6*float64(end)), true)
		want(t, what+", the time", near(2*float64(time), float64(period), 1e-6*float64(period)), true)
		want(t, what+", the burns have one sign", first == 0 && second == 0 || (first > 0) == (c.to > c.from) && (second > 0) == (c.to > c.from), true)
	}
}

// TestThreeBurnsByOneOfBoth has ways by a distance where a circle is already.
func TestThreeBurnsByOneOfBoth(t *testing.T) {
	for i, c := range transfers()[:8] {
		first, second, time, _ := impl.TwoBurns(c.mass, c.from, c.to)
		apart := 1e-6 * float64(impl.RootNumber(c.mass/min(c.from, c.to)))
		for _, by := range []float32{c.from, c.to} {
			what := fmt.Sprint("row ", i, ", by ", by)
			a, b, d, long, ok := impl.ThreeBurns(c.mass, c.from, by, c.to)
			want(t, what, ok, true)
			if by == c.from {
				a, b, d = b, d, a
			}
			want(t, what+", the burns", near(float64(a), float64(first), apart) && near(float64(b), float64(second), apart) && near(float64(d), 0, apart), true)
			_, _, circle, _ := impl.TwoBurns(c.mass, by, by)
			want(t, what+", the time", near(float64(long), float64(time+circle), 1e-6*float64(long)), true)
		}
	}
}

func TestCirclesOfTheSameSize(t *testing.T) {
	for _, row := range [][2]float32{{1, 1}, {4, 0.3}, {398600.44, 42164}, {0.7, 1e9}, {1e20, 3}, {number(subnormal), 0.9}} {
		mass, size := row[0], row[1]
		what := fmt.Sprint("the mass ", mass, ", the size ", size)
		speed, _ := impl.CircleSpeed(mass, size)
		first, second, time, ok := impl.TwoBurns(mass, size, size)
		want(t, what, ok, true)
		want(t, what+", no burns", near(float64(first), 0, 1e-14*float64(speed)) && near(float64(second), 0, 1e-14*float64(speed)), true)
		want(t, what+", half of the period", near(float64(time), math.Pi*float64(size)/float64(speed), 1e-6*float64(time)), true)
		a, b, c, long, ok := impl.ThreeBurns(mass, size, size, size)
		want(t, what, ok && long == 2*time, true)
		want(t, what+", no three burns", near(float64(a), 0, 1e-14*float64(speed)) && b == 0 && near(float64(c), 0, 1e-14*float64(speed)), true)
		want(t, what+", the goal is not ahead", numberTold(impl.LeadOf(mass, size, size)), numberText(0))
		for _, now := range []float32{0, number(minusZero), 0.25, -7} {
			want(t, what+", no window", twoTold(impl.WindowOf(mass, size, size, now)), "fail")
		}
	}
}

func TestBurnsThatAreNotFinite(t *testing.T) {
	most, least := number(mostBits), number(leastBits)
	for what, row := range map[string][3]float32{
		"the first speed": {most, least, 1}, "the second one": {most, 1, least}, "the time": {1, 1e26, 1e26}, "the time of a small mass": {1e-30, 1, 1e16},
	} {
		want(t, what, threeTold(impl.TwoBurns(row[0], row[1], row[2])), "fail")
		want(t, what+", of three burns", fourTold(impl.ThreeBurns(row[0], row[1], row[1], row[2])), "fail")
		want(t, what+", of three burns", fourTold(impl.ThreeBurns(row[0], row[1], row[2], row[2])), "fail")
	}
	want(t, "speeds that are not finite, and burns that are", threeTold(impl.TwoBurns(most, least, least)), "00000000,00000000,00000000")
	_, _, time, ok := impl.TwoBurns(1, 1.4e25, 1.5e25)
	want(t, "a time that is finite", ok && time > 1e38, true)
	_, _, _, time, ok = impl.ThreeBurns(1, 1.35e25, 1.45e25, 1.35e25)
	want(t, "the time of both halves", ok && time > 3.2e38, true)
	want(t, "a time that is not, of halves that are", fourTold(impl.ThreeBurns(1, 1.5e25, 1.7e25, 1.6e25)), "fail")
}

// sumOfBurns adds the three burns in the order in which they are returned.
func sumOfBurns(mass, from, by, to float32) float32 {
	sum := float32(0)
	a, b, c, _, _ := impl.ThreeBurns(mass, from, by, to)
	for _, x := range []float32{a, b, c} {
		sum += float32(math.Abs(float64(x)))
	}
	return sum
}

func TestBestBy(t *testing.T) {
	for i, c := range transfers()[:8] {
		var list []float32
		for k := range impl.MaxPlaces {
			list = append(list, c.by*float32(1+(k*37)%impl.MaxPlaces)/16)
		}
		for _, count := range []int{1, 2, 5, impl.MaxPlaces - 1, impl.MaxPlaces} {
			what := fmt.Sprint("row ", i, ", count ", count)
			best, sum, ok := impl.BestBy(c.mass, c.from, c.to, list[:count])
			want(t, what, ok && best >= 0 && int(best) < count, true)
			want(t, what+", its sum", numberText(sum), numberText(sumOfBurns(c.mass, c.from, list[best], c.to)))
			for k, by := range list[:count] {
				if other := sumOfBurns(c.mass, c.from, by, c.to); other < sum || other == sum && k < int(best) {
					t.Errorf("%s: better or earlier at %d", what, k)
				}
			}
		}
		want(t, fmt.Sprint("row ", i, ", too many"), passTold(impl.BestBy(c.mass, c.from, c.to, append(list, c.by))), "fail")
	}
}

func TestBestByOfSeveral(t *testing.T) {
	least, most := number(leastBits), number(mostBits)
	want(t, "none", passTold(impl.BestBy(1, 1, 2, nil)), "fail")
	want(t, "an empty list", passTold(impl.BestBy(1, 1, 2, []float32{})), "fail")
	want(t, "the first one of several", passTold(impl.BestBy(1, 1, 1, []float32{2, 1, 1, 1})), "1 00000000")
	want(t, "most ones that are the same", passTold(impl.BestBy(1, 1, 1, repeated(float32(1), impl.MaxPlaces))), "0 00000000")
	want(t, "too many of them", passTold(impl.BestBy(1, 1, 1, repeated(float32(1), impl.MaxPlaces+1))), "fail")
	want(t, "far away is better", passTold(impl.BestBy(1, 1, 20, []float32{20, 60, 2000})), passTold(2, sumOfBurns(1, 1, 2000, 20), true))
	for _, x := range append(wrongMasses(), most) {
		what := fmt.Sprint("no distance, or one to which the time is not finite: ", x)
		want(t, what, passTold(impl.BestBy(1, 1, 2, []float32{x})), "fail")
		want(t, what+", behind another one", passTold(impl.BestBy(1, 1, 2, []float32{2, x})), "fail")
		want(t, what+", before another one", passTold(impl.BestBy(1, 1, 2, []float32{x, 2})), "fail")
	}
	// Each burn is finite here, and the sum of them is not.
	by, mass := float32(1), number(0x7f000000)
	for _, size := range []float32{0x1p-126, 0x1p-128, 0x1p-129} {
		_, _, _, _, ok := impl.ThreeBurns(mass, size, by, size)
		_, sum, found := impl.BestBy(mass, size, size, []float32{by})
		told := sumOfBurns(mass, size, by, size)
		want(t, fmt.Sprint("the size ", size), ok, true)
		want(t, fmt.Sprint("the size ", size), found, told < number(infBits))
		want(t, fmt.Sprint("its sum ", size), sum == told || !found && sum == 0, true)
	}
	size := float32(0x1p-129)
	want(t, "a sum that is not finite is not the least one", passTold(impl.BestBy(mass, size, size, []float32{by, size, by})), passTold(1, sumOfBurns(mass, size, size, size), true))
	want(t, "a distance in the list that is subnormal", passTold(impl.BestBy(1, 1, 1, []float32{least})), passTold(0, sumOfBurns(1, 1, least, 1), true))
}

func TestPhaseOrbitsComeBack(t *testing.T) {
	for rounds := int64(1); rounds <= 16; rounds++ {
		for _, turns := range []float32{-0.75, -0.6, -0.25, number(minusZero), 0, 0.01, 0.5, 0.75} {
			what := fmt.Sprint("rounds ", rounds, ", turns ", turns)
			long, burn, ok := impl.PhaseOrbit(3, 2, turns, rounds)
			if rounds == 1 && turns == -0.75 {
				want(t, what+", which is too near", ok, false)
				continue
			}
			want(t, what, ok, true)
			circle, _ := impl.PeriodOf(impl.Orbit{Long: 2}, 3)
			period, _ := impl.PeriodOf(impl.Orbit{Long: long}, 3)
			goal := float64(circle) * (float64(rounds) + float64(turns))
			want(t, what+", the time", near(float64(period)*float64(rounds), goal, 1e-6*goal), true)
			speed, _ := impl.CircleSpeed(3, 2)
			there, _ := impl.SpeedAt(impl.Orbit{Long: long}, 3, 2)
			want(t, what+", the burn", near(float64(speed+burn), float64(there), 1e-6), true)
			want(t, what+", its sign", (burn > 0) == (turns > 0) && (turns != 0 || burn == 0), true)
		}
	}
}

func TestLimitsOfPhaseOrbits(t *testing.T) {
	for _, sign := range []float32{1, -1} {
		_, _, ok := impl.PhaseOrbit(1, 1, 0.75*sign, 2)
		want(t, "the limit of turns", ok, true)
		want(t, "passed", twoTold(impl.PhaseOrbit(1, 1, number(0x3f400001)*sign, 2)), "fail")
		want(t, "far away", twoTold(impl.PhaseOrbit(1, 1, 3*sign, 16)), "fail")
	}
	for _, rounds := range []int64{1, 16} {
		_, _, ok := impl.PhaseOrbit(1, 1, 0.5, rounds)
		want(t, fmt.Sprint("rounds ", rounds), ok, true)
	}
	for _, rounds := range append(wrongCounts(16), 0) {
		want(t, fmt.Sprint("rounds ", rounds), twoTold(impl.PhaseOrbit(1, 1, 0.5, rounds)), "fail")
	}
	// An orbit whose Long is less than half of the distance never comes there.
	_, _, ok := impl.PhaseOrbit(1, 1, -0.646, 1)
	want(t, "just far enough", ok, true)
	want(t, "just too near", twoTold(impl.PhaseOrbit(1, 1, -0.647, 1)), "fail")
	want(t, "a Long that is not finite", twoTold(impl.PhaseOrbit(1, number(mostBits), 0.75, 16)), "fail")
	want(t, "a burn that is not finite", twoTold(impl.PhaseOrbit(number(mostBits), number(leastBits), 0.75, 1)), "fail")
}

// TestGoalsAreReached lets the goal go on during the time of TwoBurns: it must
// be half a turn ahead of where the ship has left then.
func TestGoalsAreReached(t *testing.T) {
	for i, c := range transfers()[:12] {
		for k, row := range [][2]float32{{c.from, c.to}, {c.to, c.from}} {
			what := fmt.Sprint("row ", i, ", way ", k)
			lead, ok := impl.LeadOf(c.mass, row[0], row[1])
			want(t, what, ok && lead >= -0.5 && lead <= 0.5, true)
			turns := 0.5 * math.Pow((float64(row[0])/float64(row[1])+1)/2, 1.5)
			want(t, what+", it is reached", turnsApart(lead+float32(math.Mod(turns, 1)), 0.5) < 1e-6, true)
		}
	}
}

func TestLeadsOfHalfATurn(t *testing.T) {
	for _, size := range []float32{1, 4, 0.25, 16, 0x1p20} {
		for _, mass := range []float32{1, 4, 0.25} {
			what := fmt.Sprint("the mass ", mass, ", the size ", size)
			want(t, what, numberTold(impl.LeadOf(mass, 7*size, size)), numberText(-0.5))
			far, between, ok := impl.WindowOf(mass, 7*size, size, 0.5)
			want(t, what+", half a turn ahead of it", ok && between > 0 && far == 0, true)
		}
	}
	// Four turns of the goal, nearly: a lead just below half a turn is narrowed to it.
	lead, _ := impl.LeadOf(1, number(bitsOf(7)+1), 1)
	want(t, "a bit farther", near(float64(lead), 0.5, 1e-5) && lead < 0.5, true)
	lead, _ = impl.LeadOf(1, number(bitsOf(7)-1), 1)
	want(t, "a bit nearer", near(float64(lead), -0.5, 1e-5) && lead > -0.5, true)
	want(t, "a lead of most turns", numberTold(impl.LeadOf(1, 1e30, 1e-30)), numberText(0))
	want(t, "a lead for a time that is not finite", numberTold(impl.LeadOf(1, 1e26, 1e26)), numberText(0))
}

// TestWindows lets both go on until the window, and until the next one.
func TestWindows(t *testing.T) {
	for i, c := range transfers()[:12] {
		if i == 1 || i == 2 || i == 7 || i == 10 {
			continue // circles of the same size, nearly, and times of 0
		}
		for k, row := range [][2]float32{{c.from, c.to}, {c.to, c.from}} {
			for _, now := range []float32{0, 0.25, -0.5, 0.99, -3.2, 12} {
				what := fmt.Sprint("row ", i, ", way ", k, ", now ", now)
				wait, between, ok := impl.WindowOf(c.mass, row[0], row[1], now)
				lead, _ := impl.LeadOf(c.mass, row[0], row[1])
				want(t, what, ok && wait >= 0 && wait <= between, true)
				here, _ := impl.PeriodOf(impl.Orbit{Long: row[0]}, c.mass)
				there, _ := impl.PeriodOf(impl.Orbit{Long: row[1]}, c.mass)
				gain := 1/float64(there) - 1/float64(here)
				want(t, what+", a turn between", near(math.Abs(gain*float64(between)), 1, 1e-5), true)
				left := float64(now) + gain*float64(wait) - float64(lead)
				want(t, what+", the window", near(left, math.Round(left), 2e-5), true)
			}
		}
	}
}

func TestWindowsAndZeros(t *testing.T) {
	// The lead is -0.5 to the last bit, and the goal goes away from an outer ship.
	want(t, "it is a window now", twoTold(impl.WindowOf(1, 7, 1, -0.5)), "80000000,40d489b4")
	want(t, "a turn ahead of it", twoTold(impl.WindowOf(1, 7, 1, 0.5)), "00000000,40d489b4")
	want(t, "a turn behind it", twoTold(impl.WindowOf(1, 7, 1, -1.5)), "00000000,40d489b4")
	for _, x := range zeros() {
		want(t, "now, of zeros", twoTold(impl.WindowOf(1, 1, 4, x)), twoTold(impl.WindowOf(1, 1, 4, 0)))
	}
	want(t, "windows that are too far apart", twoTold(impl.WindowOf(1, 1e26, 1.1e26, 0)), "fail")
	_, _, ok := impl.WindowOf(1, 1, number(oneBits+1), 0)
	want(t, "circles whose sizes differ least", ok, true)
}

func TestTiltBurn(t *testing.T) {
	for _, row := range []struct{ speed, turns, burn float32 }{
		{3, 0.5, 6}, {3, -0.5, 6}, {3, 0.16666667, 3}, {3, 1.1666666, 3}, {1, 0.25, 1.4142135}, {0x1p80, 0.5, 0x1p81}, {2, 1, 0}, {2, 0, 0}, {2, 1e30, 0},
	} {
		burn, ok := impl.TiltBurn(row.speed, row.turns)
		want(t, fmt.Sprint("the speed ", row.speed, ", turns ", row.turns), ok && near(float64(burn), float64(row.burn), 1e-6*float64(row.speed)), true)
	}
	for _, x := range zeros() {
		want(t, "turns of 0", numberTold(impl.TiltBurn(2, x)), numberText(0))
	}
	want(t, "a burn that is not finite", numberTold(impl.TiltBurn(number(mostBits), 0.5)), "fail")
}

func TestMixedBurn(t *testing.T) {
	for _, row := range []struct{ a, b, turns, burn float32 }{
		{3, 4, 0.25, 5}, {4, 3, -0.25, 5}, {3, 4, 0.5, 7}, {3, 4, 0, 1}, {3, 4, 1, 1}, {4, 3, 2.75, 5}, {0x1p100, 0x1p100, 0.5, 0x1p101},
	} {
		burn, ok := impl.MixedBurn(row.a, row.b, row.turns)
		want(t, fmt.Sprint("the speeds ", row.a, row.b, ", turns ", row.turns), ok && near(float64(burn), float64(row.burn), 1e-6*float64(row.a)), true)
	}
	for _, turns := range []float32{0.1, 0.25, 0.4, 0.9, -0.3} {
		for _, speed := range []float32{1, 7.7, 1e-20} {
			tilt, _ := impl.TiltBurn(speed, turns)
			mixed, ok := impl.MixedBurn(speed, speed, turns)
			want(t, fmt.Sprint("the speed ", speed, ", turns ", turns), ok && near(float64(mixed), float64(tilt), 1e-6*float64(speed)), true)
		}
	}
	// The cosine of 0 is more than 1 by a little, so that the number under the
	// root is less than 0.
	for _, speed := range []float32{1, 3, 1e-40, number(mostBits)} {
		for _, turns := range append(zeros(), 1, -5) {
			want(t, fmt.Sprint("no change of ", speed), numberTold(impl.MixedBurn(speed, speed, turns)), numberText(0))
		}
	}
	most := number(mostBits)
	want(t, "a burn that is not finite", numberTold(impl.MixedBurn(most, most, 0.5)), "fail")
	want(t, "the greatest one", numberTold(impl.MixedBurn(most, number(leastBits), 0.3)), numberText(most))
}
