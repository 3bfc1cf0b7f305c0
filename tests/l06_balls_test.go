package tests

import (
	"fmt"
	"testing"

	"loop.example/g01284/impl"
)

// aBall turns, so that times matter.
func aBall() impl.Ball { return ballOf(1.5, 0.8, 0.3, 0.1) }

func aMark() impl.Mark { return markOf(0.1, 0.2, 0.05) }

// wrongBalls has balls of which one number is not as it must be.
func wrongBalls() []impl.Ball {
	wrong := []impl.Ball{{}, ballOf(1, 0, 0, 0), ballOf(0, 1, 0, 0)}
	for _, x := range wrongMasses() {
		wrong = append(wrong, ballOf(x, 0.8, 0.3, 0.1), ballOf(1.5, x, 0.3, 0.1))
	}
	for _, x := range wrongNumbers() {
		wrong = append(wrong, ballOf(1.5, 0.8, x, 0.1), ballOf(1.5, 0.8, 0.3, x))
	}
	return wrong
}

// wrongMarks has marks of which one number is not as it must be, and passes
// each limit by the least that is possible.
func wrongMarks() []impl.Mark {
	var wrong []impl.Mark
	aboveQuarter, aboveHalf := number(0x3e800001), number(0x3f000001)
	for _, x := range append(wrongNumbers(), aboveQuarter, -aboveQuarter, 0.5, -1) {
		wrong = append(wrong, markOf(x, 0.2, 0.05))
	}
	for _, x := range append(wrongNumbers(), 0.5, aboveHalf, -aboveHalf, 1, -1) {
		wrong = append(wrong, markOf(0.1, x, 0.05))
	}
	for _, x := range wrongNumbers() {
		wrong = append(wrong, markOf(0.1, 0.2, x))
	}
	return wrong
}

func wrongVectors() []impl.Vector {
	var wrong []impl.Vector
	for _, x := range wrongNumbers() {
		wrong = append(wrong, vectorOf(x, 2, 3), vectorOf(1, x, 3), vectorOf(1, 2, x))
	}
	return wrong
}

func TestExamplesOfChapter6(t *testing.T) {
	for _, spin := range []float32{0, 0.25, -7} {
		want(t, "the mark 0, 0", vectorTold(impl.PlaceOf(ballOf(3, 1, spin, 0), markOf(0, 0, 0), 0)), vectorText(vectorOf(1, 0, 0)))
	}
	far, ok := impl.HorizonOf(ballOf(3, 1, 0.25, 0), 1)
	want(t, "from 1 above it", ok && near(float64(far), 1.0/6, 1e-7), true)
	seen := []bool{true, false, true}
	want(t, "it rises at 2", indicesTold(impl.RisesIn(seen)), "2")
	want(t, "it sets at 1", indicesTold(impl.SetsIn(seen)), "1")
}

func TestLimitsOfChapter6(t *testing.T) {
	want(t, "MaxMarks", impl.MaxMarks, 64)
	want(t, "MaxCrew", impl.MaxCrew, 8)
}

func TestValidBall(t *testing.T) {
	least, most, less := number(leastBits), number(mostBits), number(minusZero)
	for _, b := range []impl.Ball{aBall(), ballOf(least, least, less, less), ballOf(most, most, -most, most), ballOf(1, 2, -0.5, -3), ballOf(1, 1, least, -least)} {
		want(t, fmt.Sprint(b), impl.ValidBall(b), true)
	}
	for _, b := range wrongBalls() {
		want(t, fmt.Sprint(b), impl.ValidBall(b), false)
	}
}

func TestValidMark(t *testing.T) {
	least, most, less := number(leastBits), number(mostBits), number(minusZero)
	belowHalf := number(0x3effffff)
	for _, m := range []impl.Mark{
		aMark(), {}, markOf(0.25, -0.5, -1e30), markOf(-0.25, belowHalf, most), markOf(less, less, less), markOf(least, -least, -most), markOf(number(0x3e7fffff), -belowHalf, 0),
	} {
		want(t, fmt.Sprint(m), impl.ValidMark(m), true)
	}
	for _, m := range wrongMarks() {
		want(t, fmt.Sprint(m), impl.ValidMark(m), false)
	}
}

func TestSameBallAndSameMark(t *testing.T) {
	numbers := []float32{0, number(minusZero), 1, number(leastBits), number(nanBits), number(0xffc00001), number(lessInf)}
	for place := range 4 {
		for _, x := range numbers {
			for _, y := range numbers {
				a, b := [4]float32{1, 2, 3, 4}, [4]float32{1, 2, 3, 4}
				a[place], b[place] = x, y
				same := bitsOf(x) == bitsOf(y)
				want(t, fmt.Sprint("balls ", a, b), impl.SameBall(ballOf(a[0], a[1], a[2], a[3]), ballOf(b[0], b[1], b[2], b[3])), same)
				if place < 3 {
					want(t, fmt.Sprint("marks ", a, b), impl.SameMark(markOf(a[0], a[1], a[2]), markOf(b[0], b[1], b[2])), same)
				}
			}
		}
	}
}

func TestWrapTurn(t *testing.T) {
	least, belowHalf := number(leastBits), number(0x3effffff)
	for x, wrapped := range map[float32]float32{
		0: 0, 0.25: 0.25, -0.25: -0.25, 0.75: -0.25, -0.75: 0.25, 1: 0, -1: 0, 3.125: 0.125, -3.125: -0.125, 12.875: -0.125, least: least, -least: -least,
		// Both ends of half a turn, and what is next to them.
		0.5: -0.5, -0.5: -0.5, 1.5: -0.5, -1.5: -0.5, number(0x3f000001): -belowHalf + 0x1p-25, -number(0x3f000001): number(0x3efffffe), -belowHalf: -belowHalf,
		number(0x3efffffe): number(0x3efffffe), number(0x3fbfffff): 0.5 - 0x1p-23, number(0x3fc00001): -0.5 + 0x1p-23, -number(0x3fbfffff): -0.5 + 0x1p-23, -number(0x3fc00001): 0.5 - 0x1p-23,
		// The sum is rounded up to 1 here.
		belowHalf: -0.5,
		// The last halves, and great odd numbers, where it is rounded up by a half.
		8388607.5: -0.5, -8388607.5: -0.5, 8388606.5: -0.5, 4194303.75: -0.25, -4194303.75: 0.25, 8388608: 0, 8388609: 0, 8388610: 0, 8388611: 0, -8388609: 0, -8388610: 0, 16777215: 0, -16777215: 0, 16777216: 0,
		1e30: 0, -1e30: 0, number(mostBits): 0, -number(mostBits): 0, number(subnormal): number(subnormal), number(leastNorm): number(leastNorm),
	} {
		want(t, fmt.Sprint("the turn ", x), numberTold(impl.WrapTurn(x)), numberText(wrapped))
	}
	want(t, "-0", numberTold(impl.WrapTurn(number(minusZero))), numberText(number(minusZero)))
	for _, x := range wrongNumbers() {
		want(t, fmt.Sprint("the turn ", x), numberTold(impl.WrapTurn(x)), "fail")
	}
}

func TestWrappedTurnsAreParts(t *testing.T) {
	for _, x := range manyNumbers() {
		turn, ok := impl.WrapTurn(x)
		want(t, fmt.Sprint("the turn ", x), ok, impl.IsFinite(x))
		want(t, fmt.Sprint("the turn ", x), turn >= -0.5 && turn < 0.5, true)
		if x > -1e6 && x < 1e6 {
			want(t, fmt.Sprint("the turn ", x), turnsApart(turn, x) == 0 || bitsOf(x) == 0x3effffff, true)
		}
	}
}

// call has a function of chapter 6 or 7, and arguments with which it succeeds.
type call struct {
	name string
	f    any
	list []any
}

// wantFailingTypes puts what is not valid in place of each argument that is a
// ball, a mark, an orbit, a vector, a look, looks, an entry, entries or a number.
func (c call) wantFailingTypes(t *testing.T) {
	t.Helper()
	for place, x := range c.list {
		switch x.(type) {
		case impl.Ball:
			wantFailing(t, c.name, c.f, c.list, place, wrongBalls())
		case impl.Mark:
			wantFailing(t, c.name, c.f, c.list, place, wrongMarks())
		case impl.Orbit:
			wantFailing(t, c.name, c.f, c.list, place, wrongOrbits())
		case impl.Vector:
			wantFailing(t, c.name, c.f, c.list, place, wrongVectors())
		case impl.Look:
			wantFailing(t, c.name, c.f, c.list, place, wrongLooks())
		case []impl.Look:
			wantFailing(t, c.name, c.f, c.list, place, wrongLookLists())
		case impl.Entry:
			wantFailing(t, c.name, c.f, c.list, place, wrongEntries())
		case []impl.Entry:
			wantFailing(t, c.name, c.f, c.list, place, wrongEntryLists())
		case float32:
			wantFailing(t, c.name, c.f, c.list, place, wrongNumbers())
		}
	}
}

func TestBallsFailForWrongArguments(t *testing.T) {
	for _, c := range []call{
		{"PlaceOf", impl.PlaceOf, []any{aBall(), aMark(), float32(0.7)}},
		{"MarkOf", impl.MarkOf, []any{aBall(), vectorOf(1, -2, 0.5), float32(0.7)}},
		{"ArcBetween", impl.ArcBetween, []any{aMark(), markOf(-0.2, 0.4, 2)}},
		{"RiseAt", impl.RiseAt, []any{aBall(), aMark(), vectorOf(1, -2, 0.5), float32(0.7)}},
		{"HorizonOf", impl.HorizonOf, []any{aBall(), float32(2)}},
	} {
		c.wantFailingTypes(t)
	}
	wantFailing(t, "HorizonOf", impl.HorizonOf, []any{aBall(), float32(2)}, 1, []float32{-number(leastBits), -1, -number(mostBits)})
}

func ordinaryBalls() []impl.Ball {
	return []impl.Ball{aBall(), ballOf(1, 1, 0, 0), ballOf(398600.44, 6378.137, 1.1605763e-05, 0.77), ballOf(1, 0.01, -3, 12.5)}
}

// TestMarksLeadToPlacesAndBack has promise 7 for marks that are above the
// ground, on it, and below it, as far as the middle.
func TestMarksLeadToPlacesAndBack(t *testing.T) {
	for i, b := range ordinaryBalls() {
		for _, time := range []float32{0, 0.3, -2, 4.75} {
			for _, north := range []float32{-0.24, -0.125, 0, 0.07, 0.2} {
				for _, east := range []float32{-0.5, -0.3, 0, 0.25, 0.4, number(0x3effffff)} {
					for _, share := range []float32{-0.9, -0.1, 0, 0.2, 3} {
						m := markOf(north, east, share*b.Radius)
						what := fmt.Sprint("ball ", i, ", the time ", time, ", ", m)
						at, ok := impl.PlaceOf(b, m, time)
						want(t, what, ok && near(float64(impl.SizeOfVector(at)/(b.Radius+m.High)), 1, 1e-6), true)
						back, ok := impl.MarkOf(b, at, time)
						want(t, what, ok && impl.ValidMark(back), true)
						want(t, what+", North", near(float64(back.North), float64(north), 1e-6), true)
						want(t, what+", East", turnsApart(back.East, east) < 5e-6, true)
						want(t, what+", High", near(float64(back.High), float64(m.High), 1e-6*float64(b.Radius+m.High+b.Radius)), true)
					}
				}
			}
		}
	}
}

func TestPlacesLeadToMarksAndBack(t *testing.T) {
	numbers := []float32{-3, -0.2, 0, number(minusZero), 1e-6, 0.5, 7}
	for i, b := range ordinaryBalls() {
		for _, x := range numbers {
			for _, y := range numbers {
				for _, z := range numbers {
					at := impl.ScaleVector(vectorOf(x, y, z), b.Radius)
					m, ok := impl.MarkOf(b, at, 1.3)
					want(t, fmt.Sprint("ball ", i, ", ", at), ok && impl.ValidMark(m), true)
					back, ok := impl.PlaceOf(b, m, 1.3)
					want(t, fmt.Sprint("ball ", i, ", ", at, " and ", back), ok && nearVectors(at, back, 2e-6*float64(impl.SizeOfVector(at)+b.Radius)), true)
				}
			}
		}
	}
}

func TestMarksAtThePoles(t *testing.T) {
	for _, east := range []float32{-0.5, -0.25, 0, 0.3} {
		for _, high := range []float32{0, 1, -0.5} {
			for _, time := range []float32{0, 0.7} {
				what := fmt.Sprint("East ", east, ", High ", high, ", the time ", time)
				top, ok := impl.PlaceOf(aBall(), markOf(0.25, east, high), time)
				want(t, what, ok && top == vectorOf(0, 0, 0.8+high), true)
				bottom, ok := impl.PlaceOf(aBall(), markOf(-0.25, east, high), time)
				want(t, what, ok && bottom == vectorOf(0, 0, -0.8-high), true)
				back, _ := impl.MarkOf(aBall(), top, time)
				want(t, what+", North", back.North, 0.25)
				back, _ = impl.MarkOf(aBall(), bottom, time)
				want(t, what+", North", back.North, -0.25)
			}
		}
	}
	for _, x := range zeros() {
		for _, y := range zeros() {
			// The angle of two zeros is +0, so that East is the opposite of the face.
			want(t, "the axis", markTold(impl.MarkOf(ballOf(1, 1, 0.25, 0), vectorOf(x, y, 3), 1)), markText(markOf(0.25, -0.25, 2)))
			want(t, "the axis below", markTold(impl.MarkOf(ballOf(1, 1, 0.25, 0), vectorOf(x, y, -0.5), 2)), markText(markOf(-0.25, -0.5, -0.5)))
			want(t, "the middle", markTold(impl.MarkOf(ballOf(1, 1, 0, 0), vectorOf(x, y, x), 1)), markText(markOf(0, 0, -1)))
		}
	}
	least := number(leastBits)
	want(t, "near the axis", markTold(impl.MarkOf(ballOf(1, 1, 0, 0), vectorOf(least, -least, 1), 0)), markText(markOf(0.25, -0.125, 0)))
}

func TestMarksAtHalfATurn(t *testing.T) {
	b := ballOf(1, 1, 0, 0)
	for _, y := range zeros() {
		want(t, "behind the ball", markTold(impl.MarkOf(b, vectorOf(-2, y, 0), 0)), markText(markOf(0, -0.5, 1)))
		want(t, "in front of it", markTold(impl.MarkOf(b, vectorOf(2, y, 0), 0)), markText(markOf(0, 0, 1)))
	}
	want(t, "just before it", markTold(impl.MarkOf(b, vectorOf(-2, 1e-6, 0), 0)), markText(markOf(0, number(0x3efffffd), 1)))
	want(t, "just behind it", markTold(impl.MarkOf(b, vectorOf(-2, -1e-6, 0), 0)), markText(markOf(0, -number(0x3efffffd), 1)))
	want(t, "so near that it is rounded", markTold(impl.MarkOf(b, vectorOf(-2, 1e-8, 0), 0)), markText(markOf(0, -0.5, 1)))
	want(t, "so near on the other side", markTold(impl.MarkOf(b, vectorOf(-2, -1e-8, 0), 0)), markText(markOf(0, -0.5, 1)))
	for _, start := range []float32{0.5, -0.5, 1.5, -7.5} {
		want(t, fmt.Sprint("the Start ", start), markTold(impl.MarkOf(ballOf(1, 1, 0, start), vectorOf(2, 0, 0), 3)), markText(markOf(0, -0.5, 1)))
		want(t, fmt.Sprint("the Spin ", start), markTold(impl.MarkOf(ballOf(1, 1, start, 0), vectorOf(2, 0, 0), 1)), markText(markOf(0, -0.5, 1)))
		at, ok := impl.PlaceOf(ballOf(1, 1, 0, start), markOf(0, -0.5, 1), 3)
		want(t, fmt.Sprint("the Start ", start), ok && at == vectorOf(2, 0, 0), true)
	}
	behind, ok := impl.PlaceOf(b, markOf(0, -0.5, 1), 0)
	want(t, "East -0.5", ok && behind == vectorOf(-2, 0, 0), true)
}

func TestPlacesBelowTheGround(t *testing.T) {
	for _, north := range []float32{-0.2, 0, 0.1} {
		for _, east := range []float32{-0.4, 0, 0.3} {
			above, _ := impl.PlaceOf(aBall(), markOf(north, east, 1), 0.5)
			beyond, ok := impl.PlaceOf(aBall(), markOf(north, east, -2.6), 0.5)
			want(t, "beyond the middle", ok && nearVectors(impl.ScaleVector(above, -1), beyond, 1e-6), true)
			middle, ok := impl.PlaceOf(aBall(), markOf(north, east, -0.8), 0.5)
			want(t, "at the middle", ok && middle == vectorOf(0, 0, 0), true)
		}
	}
	most := number(mostBits)
	want(t, "too high", vectorTold(impl.PlaceOf(ballOf(1, most, 0, 0), markOf(0.1, 0, most), 0)), "fail")
	want(t, "as high as can be", vectorTold(impl.PlaceOf(ballOf(1, 1, 0, 0), markOf(0, 0, most), 0)), vectorText(vectorOf(most, 0, 0)))
	want(t, "as deep as can be", vectorTold(impl.PlaceOf(ballOf(1, most, 0, 0), markOf(0, 0, -most), 0)), vectorText(vectorOf(0, 0, 0)))
	want(t, "a place that is too far away", markTold(impl.MarkOf(aBall(), vectorOf(1e20, 0, 0), 0)), "fail")
	want(t, "one that is too far above", markTold(impl.MarkOf(aBall(), vectorOf(1, 0, 1e20), 0)), "fail")
	want(t, "a face that is not finite", markTold(impl.MarkOf(ballOf(1, 1, most, 0), vectorOf(1, 0, 0), 2)), "fail")
	want(t, "a face that is not finite", vectorTold(impl.PlaceOf(ballOf(1, 1, most, 0), aMark(), 2)), "fail")
	want(t, "a sum of a face that is not finite", vectorTold(impl.PlaceOf(ballOf(1, 1, most, most), aMark(), 1)), "fail")
}

func TestArcBetween(t *testing.T) {
	for _, m := range []impl.Mark{{}, markOf(0.1, 0.3, 5), markOf(-0.25, 0.1, 0), markOf(0.25, -0.5, -3), markOf(0.2, -0.5, 0)} {
		same, ok := impl.ArcBetween(m, m)
		want(t, fmt.Sprint("the same mark ", m), ok && near(float64(same), 0, 1e-6), true)
		other := markOf(-m.North, m.East+0.5, -m.High)
		if other.East >= 0.5 {
			other.East -= 1
		}
		opposite, ok := impl.ArcBetween(m, other)
		want(t, fmt.Sprint("the opposite mark of ", m), ok && near(float64(opposite), 0.5, 1e-6), true)
	}
	for _, row := range []struct {
		a, b impl.Mark
		arc  float64
	}{
		{markOf(0, 0, 0), markOf(0, 0.25, 0), 0.25}, {markOf(0, -0.4, 1), markOf(0, 0.4, -7), 0.2}, {markOf(0.25, 0, 0), markOf(0, 0.3, 0), 0.25},
		{markOf(0.25, 0.1, 0), markOf(0.25, -0.3, 0), 0}, {markOf(0.25, 0.1, 0), markOf(-0.25, 0.1, 0), 0.5}, {markOf(0.1, 0.2, 0), markOf(-0.05, 0.2, 1e30), 0.15},
		{markOf(0, -0.5, 0), markOf(0, number(0x3effffff), 0), 0}, {markOf(0.2, 0.25, 0), markOf(0.2, -0.25, 0), 0.1}, {markOf(0, 0, 0), markOf(0, -0.5, 0), 0.5},
	} {
		arc, ok := impl.ArcBetween(row.a, row.b)
		want(t, fmt.Sprint(row), ok && near(float64(arc), row.arc, 1e-6), true)
		back, ok := impl.ArcBetween(row.b, row.a)
		want(t, fmt.Sprint("back: ", row), ok && back == arc, true)
	}
}

func TestRiseAt(t *testing.T) {
	b := ballOf(1, 2, 0.25, 0)
	for _, high := range []float32{0, 1, -1} {
		m := markOf(0, 0.25, high)
		for what, row := range map[string]struct {
			at   impl.Vector
			rise float64
		}{
			"above":         {vectorOf(-5, 0, 0), 1},
			"below":         {vectorOf(5, 0, 0), -1},
			"at the middle": {vectorOf(0, 0, 0), -1},
			"north":         {vectorOf(-2-high, 0, 3), 0},
			"east":          {vectorOf(-2-high, -7, 0), 0},
			"half up":       {vectorOf(-3-high, 1, 0), 0.70710678},
			"half down":     {vectorOf(-1-high, 0, -1), -0.70710678},
		} {
			rise, ok := impl.RiseAt(b, m, row.at, 1)
			want(t, fmt.Sprint(what, ", High ", high), ok && near(float64(rise), row.rise, 1e-6), true)
		}
	}
	for _, m := range []impl.Mark{aMark(), {}, markOf(0.25, 0, 0), markOf(-0.25, 0.3, 1), markOf(0.1, -0.5, -0.3)} {
		at, _ := impl.PlaceOf(b, m, 0.7)
		want(t, fmt.Sprint("a place that is the mark ", m), numberTold(impl.RiseAt(b, m, at, 0.7)), "fail")
		rise, ok := impl.RiseAt(b, m, vectorOf(1e20, 1e20, 1e20), 0.7)
		want(t, fmt.Sprint("a place whose distance from this is not finite, ", m), ok && rise == 0, true)
	}
	want(t, "a mark at the middle", numberTold(impl.RiseAt(b, markOf(0.1, 0.2, -2), vectorOf(1, 1, 1), 0)), "fail")
	want(t, "a mark beyond the middle", numberTold(impl.RiseAt(b, markOf(0, 0, -3), vectorOf(-3, 0, 0), 0)), numberText(1))
	want(t, "a place that is as far as can be", numberTold(impl.RiseAt(b, markOf(0, 0, 0), vectorOf(number(mostBits), 0, 0), 0)), "fail")
	want(t, "a ball whose square is 0", numberTold(impl.RiseAt(ballOf(1, 1e-30, 0, 0), markOf(0, 0, 0), vectorOf(1, 0, 0), 0)), "fail")
}

func TestHorizonOf(t *testing.T) {
	b, most := ballOf(1, 2, 0, 0), number(mostBits)
	last := float32(0)
	for _, x := range zeros() {
		want(t, "on the ground", numberTold(impl.HorizonOf(b, x)), numberText(0))
	}
	for _, high := range []float32{1e-6, 0.01, 1, 2, 10, 1e4, 1e6} {
		far, ok := impl.HorizonOf(b, high)
		want(t, fmt.Sprint("from ", high), ok && far > last && far < 0.25, true)
		// What is as far away as that is seen just at the horizon.
		up, _ := impl.PlaceOf(b, markOf(0, 0, high), 0)
		if high > 0.005 && high < 100 {
			rise, ok := impl.RiseAt(b, markOf(0, far, 0), up, 0)
			want(t, fmt.Sprint("the horizon from ", high), ok && near(float64(rise), 0, 1e-5), true)
		}
		last = far
	}
	want(t, "from far away", numberTold(impl.HorizonOf(b, 1e18)), numberText(0.25))
	far, ok := impl.HorizonOf(b, number(leastBits))
	want(t, "from the least high", ok && near(float64(far), 6e-24, 1e-25), true)
	want(t, "from too far away", numberTold(impl.HorizonOf(b, 1e20)), "fail")
	want(t, "a ball that is too large", numberTold(impl.HorizonOf(ballOf(1, most, 0, 0), 1)), "fail")
	want(t, "such a ball from its ground", numberTold(impl.HorizonOf(ballOf(1, most, 0, 0), 0)), "fail")
	want(t, "the largest ball", numberTold(impl.HorizonOf(ballOf(1, most/2, 0, 0), 0)), numberText(0))
}
