package tests

import (
	"fmt"
	"math"
	"testing"

	"loop.example/g01284/impl"
)

// wrongPlaces are not finite, or 0.
func wrongPlaces() []complex64 {
	list := wrongPoints()
	for _, a := range zeros() {
		for _, b := range zeros() {
			list = append(list, complex(a, b))
		}
	}
	return list
}

// ordinaryArcs go between places that are not on one line with the mass, both
// ways around.
func ordinaryArcs() []arcRow {
	var list []arcRow
	for _, mass := range []float32{1, 0.3, 50} {
		for _, to := range []complex64{complex(0, 1), complex(-2, 1), complex(0.3, 2.9), complex(1.3, 0.4), complex(-0.4, 0.05), complex(-0.9, 7)} {
			for _, from := range []complex64{1, complex(1.1, -0.2)} {
				list = append(list, arcRow{mass: mass, from: from, to: to}, arcRow{mass: mass, from: to, to: impl.ConjugateOf(from)}, arcRow{mass: mass, from: impl.ConjugateOf(from), to: impl.ConjugateOf(to)})
			}
		}
	}
	return list
}

func TestNumbersOfArcs(t *testing.T) {
	from, to := complex64(complex(1, 0.5)), complex64(complex(-0.3, 2))
	for _, a := range []arguments{
		{"ArcTime", impl.ArcTime, []any{float32(2), from, to, float32(3), true}, []int{0}, []int{3}},
		{"LeastArc", impl.LeastArc, []any{float32(2), from, to}, []int{0}, nil},
		{"ArcFor", impl.ArcFor, []any{float32(2), from, to, float32(3)}, []int{0, 3}, nil},
		{"ArcSpeeds", impl.ArcSpeeds, []any{float32(2), from, to, float32(3), true}, []int{0}, []int{3}},
	} {
		a.wantFailingNumbers(t)
		wantFailing(t, a.name, a.f, a.list, 1, wrongPlaces())
		wantFailing(t, a.name, a.f, a.list, 2, wrongPlaces())
		if len(a.list) == 5 {
			wantFailing(t, a.name+", no Long", a.f, a.list, 3, append(zeros(), -3, number(leastBits)))
		}
	}
}

// TestArcsAreFoundAgain has promise 6.
func TestArcsAreFoundAgain(t *testing.T) {
	for i, c := range ordinaryArcs() {
		least, first, ok := impl.LeastArc(c.mass, c.from, c.to)
		want(t, fmt.Sprint("arc ", i), ok, true)
		for _, by := range []float32{1.01, 1.1, 1.3, 2, 3, 7} {
			for _, far := range []bool{false, true} {
				what := fmt.Sprint("arc ", i, ", the Long ", by, " times the least one, far ", far)
				long := least * by
				time, ok := impl.ArcTime(c.mass, c.from, c.to, long, far)
				found, isFar, fits := impl.ArcFor(c.mass, c.from, c.to, time)
				want(t, what, ok && fits, true)
				want(t, what+", found far", isFar, far)
				want(t, what+", found", near(float64(found/long), 1, 2e-5), true)
				want(t, what+", it takes longer than the least one if it is far", time > first, far)
				again, ok := impl.ArcTime(c.mass, c.from, c.to, found, isFar)
				want(t, what+", its time", ok && near(float64(again/time), 1, 1e-6), true)
			}
		}
	}
}

func onLevel(x complex64) impl.Vector { return vectorOf(real(x), imag(x), 0) }

// TestArcsAreFlown lets chapter 3 go on from the first place with the first
// speed for the time of the arc.
func TestArcsAreFlown(t *testing.T) {
	for i, c := range ordinaryArcs() {
		least, _, _ := impl.LeastArc(c.mass, c.from, c.to)
		for _, by := range []float32{1.05, 1.4, 3} {
			for _, far := range []bool{false, true} {
				what := fmt.Sprint("arc ", i, ", the Long ", by, " times the least one, far ", far)
				time, _ := impl.ArcTime(c.mass, c.from, c.to, least*by, far)
				first, second, ok := impl.ArcSpeeds(c.mass, c.from, c.to, least*by, far)
				orbit, fits := impl.OrbitOf(onLevel(c.from), onLevel(first), c.mass)
				want(t, what, ok && fits, true)
				want(t, what+", the Long", near(float64(orbit.Long/(least*by)), 1, 1e-5), true)
				later, _ := impl.LaterOrbit(orbit, c.mass, time)
				at, speed, ok := impl.StateOf(later, c.mass)
				want(t, what, ok, true)
				wantNearState(t, what, at, speed, onLevel(c.to), onLevel(second), 1e-4)
			}
		}
	}
}

// TestArcsBackAreMirrored goes back with the opposite speeds, in the same time.
func TestArcsBackAreMirrored(t *testing.T) {
	for i, c := range ordinaryArcs() {
		least, _, _ := impl.LeastArc(c.mass, c.from, c.to)
		for _, far := range []bool{false, true} {
			what := fmt.Sprint("arc ", i, ", far ", far)
			here, _ := impl.ArcTime(c.mass, c.from, c.to, 2*least, far)
			back, ok := impl.ArcTime(c.mass, c.to, c.from, 2*least, far)
			want(t, what+", the time", ok && near(float64(back/here), 1, 1e-6), true)
			first, second, _ := impl.ArcSpeeds(c.mass, c.from, c.to, 2*least, far)
			third, fourth, ok := impl.ArcSpeeds(c.mass, c.to, c.from, 2*least, far)
			apart := 1e-6 * (impl.LongOf(first) + impl.LongOf(second))
			want(t, what+", the speeds", ok && impl.LongOf(first+fourth) < apart && impl.LongOf(second+third) < apart, true)
		}
	}
}

// TestArcsOfCircles has the places of a circle around the mass, which has the
// time of the turns between them.
func TestArcsOfCircles(t *testing.T) {
	for _, turns := range []float64{0.05, 0.125, 0.25, 0.4, 0.49} {
		from, to := impl.PhasorOf(0.1), impl.PhasorOf(0.1+turns)
		time, ok := impl.ArcTime(4, from, to, 1, false)
		want(t, fmt.Sprint("turns ", turns), ok && near(float64(time), math.Pi*turns, 1e-6), true)
		first, second, ok := impl.ArcSpeeds(4, from, to, 1, false)
		across := impl.ScaleComplex(impl.PhasorOf(0.35), 2)
		want(t, fmt.Sprint("the first speed, turns ", turns), ok && impl.LongOf(first-across) < 4e-6, true)
		across = impl.ScaleComplex(impl.PhasorOf(0.35+turns), 2)
		want(t, fmt.Sprint("the second speed, turns ", turns), impl.LongOf(second-across) < 4e-6, true)
	}
}

func TestArcsOfTheLeastLong(t *testing.T) {
	for _, size := range []float32{1, 0x1p60, 0x1p-60, 0x1p-140} {
		from, to := complex(3*size, 0), complex(0, 4*size)
		mass := 4 * size // the sides of the triangle are 3, 4 and 5, and half of s is 3
		what := fmt.Sprint("the size ", size)
		least, first, ok := impl.LeastArc(mass, from, to)
		want(t, what, numberTold(least, ok), numberText(3*size))
		for _, far := range []bool{false, true} {
			want(t, what+", its time", numberTold(impl.ArcTime(mass, from, to, least, far)), numberText(first))
			below := number(bitsOf(least) - 1)
			want(t, what+", a Long that is too small", numberTold(impl.ArcTime(mass, from, to, below, far)), "fail")
			want(t, what+", its speeds", planeTold(impl.ArcSpeeds(mass, from, to, below, far)), "fail")
			above := number(bitsOf(least) + 1)
			_, ok := impl.ArcTime(mass, from, to, above, far)
			want(t, what+", the next Long", ok, true)
		}
		near1, near2, ok := impl.ArcSpeeds(mass, from, to, least, false)
		far1, far2, fits := impl.ArcSpeeds(mass, from, to, least, true)
		want(t, what+", there is one least arc", ok && fits && near1 == far1 && near2 == far2, true)
	}
}

// TestLeastLongsAreNotNarrowed looks for arcs whose least Long is less when it
// is narrowed, and is not long enough then.
func TestLeastLongsAreNotNarrowed(t *testing.T) {
	counts := map[bool]int{}
	for i, c := range ordinaryArcs() {
		x, y := float64(real(c.to))-float64(real(c.from)), float64(imag(c.to))-float64(imag(c.from))
		r := math.Hypot(float64(real(c.from)), float64(imag(c.from)))
		q := math.Hypot(float64(real(c.to)), float64(imag(c.to)))
		half := (r + q + math.Hypot(x, y)) / 4
		least, _, _ := impl.LeastArc(c.mass, c.from, c.to)
		want(t, fmt.Sprint("arc ", i), numberText(least), numberText(float32(half)))
		_, ok := impl.ArcTime(c.mass, c.from, c.to, least, false)
		want(t, fmt.Sprint("arc ", i, ", the least Long"), ok, float64(least) >= half)
		counts[ok]++
	}
	want(t, "some of both", counts[true] > 10 && counts[false] > 10, true)
}

// TestArcsOfTheLeastTime has arcs whose time is that of the least arc to the
// last bit, as it is told before it is narrowed: these are not far.
func TestArcsOfTheLeastTime(t *testing.T) {
	for _, row := range []struct {
		mass     float32
		from, to complex64
		time     uint32
	}{
		{9.671875, 11.90625, complex(4.2421875, -7.28515625), 1100940622}, {5.0625, 15.296875, complex(0.3046875, 0.86328125), 1106437220},
		{40.859375, 12.453125, complex(-6.16796875, 5.70703125), 1098586028},
	} {
		what := fmt.Sprint("the mass ", row.mass)
		least, first, ok := impl.LeastArc(row.mass, row.from, row.to)
		want(t, what, numberTold(first, ok), numberText(number(row.time)))
		want(t, what+", the least time", arcTold(impl.ArcFor(row.mass, row.from, row.to, first)), arcTold(least, false, true))
		long, far, ok := impl.ArcFor(row.mass, row.from, row.to, number(row.time+1))
		want(t, what+", the next time", ok && far && near(float64(long/least), 1, 1e-6), true)
		long, far, ok = impl.ArcFor(row.mass, row.from, row.to, number(row.time-1))
		want(t, what+", the time before", ok && !far && near(float64(long/least), 1, 1e-6), true)
	}
}

// TestArcsForTimesWithoutOne looks at the limits between which a Long is
// sought.
func TestArcsForTimesWithoutOne(t *testing.T) {
	for _, time := range []float32{number(leastBits), number(subnormal), 1e-20, 0.01} {
		want(t, fmt.Sprint("in the time ", time), arcTold(impl.ArcFor(1, 3, 4i, time)), numberText(384)+",false")
	}
	for _, time := range []float32{1e9, number(mostBits)} {
		want(t, fmt.Sprint("in the time ", time), arcTold(impl.ArcFor(1, 3, 4i, time)), numberText(384)+",true")
	}
	want(t, "a Long that is not finite", arcTold(impl.ArcFor(1, 0x1p126, 0x1p124i, 1)), "fail")
	long, far, ok := impl.ArcFor(0x1p127, 0x1p121, 0x1p120i, 1)
	want(t, "the greatest Long", ok && !far && long > 0x1p127, true)
	most := number(mostBits)
	want(t, "a least Long that is not finite", arcTold(impl.ArcFor(1, complex(most, most), complex(-most, -most), most)), "fail")
	want(t, "it has no time", twoTold(impl.LeastArc(most, complex(most, most), complex(-most, -most))), "fail")
	want(t, "a least time that is not finite", twoTold(impl.LeastArc(1, 1e26, 1e26i)), "fail")
	want(t, "a time that is not finite", numberTold(impl.ArcTime(1, 1, 1i, 1e26, true)), "fail")
	time, ok := impl.ArcTime(1, 1, 1i, 1e26, false)
	want(t, "a short way on it", ok && time < 1, true)
	_, far, ok = impl.ArcFor(1, 1e26, 1e26i, most)
	want(t, "a time that is less than that of the least arc", ok && !far, true)
}

// TestArcsOnOneLine has places on one line with the mass: for some on both
// sides of it, s is less than c by a little, so that a half angle is that of a
// number less than 0.
func TestArcsOnOneLine(t *testing.T) {
	for _, row := range []struct{ from, to complex64 }{
		{1, -1}, {complex(7, 2.59), complex(-14, -5.18)}, {complex(7, 2.59), complex(-3.5, -1.295)}, {complex(9, 3.33), complex(-18, -6.66)}, {1i, -3i},
	} {
		what := fmt.Sprint("from ", row.from, " to ", row.to)
		r, q := float64(impl.LongOf(row.from)), float64(impl.LongOf(row.to))
		least, time, ok := impl.LeastArc(1, row.from, row.to)
		want(t, what, ok && near(float64(least), (r+q)/2, 1e-6*r), true)
		burn, _, half, _ := impl.TwoBurns(1, float32(r), float32(q))
		want(t, what+", half of an ellipse", near(float64(time/half), 1, 1e-6) && (burn > 0) == (q > r), true)
		want(t, what+", no way is the shorter one", planeTold(impl.ArcSpeeds(1, row.from, row.to, 2*least, false)), "fail")
		more, ok := impl.ArcTime(1, row.from, row.to, 2*least, true)
		less, fits := impl.ArcTime(1, row.from, row.to, 2*least, false)
		period, _ := impl.PeriodOf(impl.Orbit{Long: 2 * least}, 1)
		want(t, what+", both ways make an ellipse", ok && fits && near(float64((more+less)/period), 1, 1e-6), true)
	}
	first, second, ok := impl.ArcSpeeds(2, 1, 3, 4, false)
	up, _ := impl.SpeedAt(impl.Orbit{Long: 4}, 2, 1)
	later, _ := impl.SpeedAt(impl.Orbit{Long: 4}, 2, 3)
	want(t, "straight up", ok && near(float64(real(first)), float64(up), 1e-6) && near(float64(real(second)), float64(later), 1e-6), true)
	want(t, "no way aside", imag(first) == 0 && imag(second) == 0, true)
	_, second, ok = impl.ArcSpeeds(2, 1, 3, 4, true)
	want(t, "up and down", ok && near(float64(real(second)), -float64(later), 1e-6), true)
}

func TestArcsBetweenEqualPlaces(t *testing.T) {
	for _, at := range []complex64{1, complex(2, 1), complex(-0.3, 0.4), complex(1e-10, -1e-10)} {
		what := fmt.Sprint("at ", at)
		least, first, ok := impl.LeastArc(3, at, at)
		want(t, what+", the least Long", numberTold(least, ok), numberText(float32(float64(impl.LongOf(at))/2)))
		want(t, what+", its time", numberText(first), numberText(0))
		long := 2 * impl.LongOf(at)
		want(t, what+", it is there already", numberTold(impl.ArcTime(3, at, at, long, false)), numberText(0))
		time, ok := impl.ArcTime(3, at, at, long, true)
		want(t, what, ok && time >= 0, true)
		for _, far := range []bool{false, true} {
			want(t, what+", it has no way", planeTold(impl.ArcSpeeds(3, at, at, long, far)), "fail")
		}
		found, far, ok := impl.ArcFor(3, at, at, number(leastBits))
		want(t, what+", each time is far", ok && far && near(float64(found/least), 1, 0.001), true)
	}
	// Up and down from 1, on an ellipse that is nearly a line.
	up, _ := impl.ArcTime(1, 1, 1, 3, true)
	there, _ := impl.ArcTime(1, 1, complex(1, 1e-4), 3, true)
	want(t, "nearly equal places", near(float64(up), float64(there), 1e-3), true)
	want(t, "zeros of both signs", numberTold(impl.ArcTime(1, complex(1, 0), complex(1, number(minusZero)), 3, false)), numberText(0))
}

// TestArcsOfFarPlaces has a difference of places that is no 32-bit number.
func TestArcsOfFarPlaces(t *testing.T) {
	want(t, "most apart", arcTold(impl.ArcFor(1, complex(-number(mostBits), 0), complex(number(mostBits), 1), 1)), "fail")
	first, second, ok := impl.ArcSpeeds(1, complex(-0x1p127, 0x1p120), complex(0x1p127, 0x1p120), number(mostBits), true)
	want(t, "its speeds", ok && impl.LongOf(first) > 0 && impl.LongOf(second) > 0, true)
}

func TestSpeedsOfArcsThatAreNotFinite(t *testing.T) {
	most, least := number(mostBits), number(leastBits)
	want(t, "near the mass", planeTold(impl.ArcSpeeds(most, complex(least, 0), complex(0, least), 1, false)), "fail")
	want(t, "at the first place", planeTold(impl.ArcSpeeds(most, complex(least, 0), complex(1, 1), 1, false)), "fail")
	want(t, "at the second place", planeTold(impl.ArcSpeeds(most, complex(1, 1), complex(least, 0), 1, false)), "fail")
	_, _, ok := impl.ArcSpeeds(most, complex(1, 1), complex(0.5, 0), 1, false)
	want(t, "elsewhere", ok, true)
	// So near that only the speed at one of both places is not finite.
	here, there := complex64(complex(1e-39, 0)), complex64(complex(0, 1e-25))
	for _, far := range []bool{false, true} {
		for _, places := range [][2]complex64{{here, there}, {there, here}} {
			first, second, ok := impl.ArcSpeeds(most, places[0], places[1], 1e-25, far)
			want(t, fmt.Sprint("from ", places[0], " to ", places[1]), !ok && first == 0 && second == 0, true)
			first, second, ok = impl.ArcSpeeds(most/16, places[0], places[1], 1e-25, far)
			want(t, fmt.Sprint("for a lesser mass, from ", places[0]), ok && max(impl.LongOf(first), impl.LongOf(second)) > 1e38 && min(impl.LongOf(first), impl.LongOf(second)) < 1e32, true)
		}
	}
}
