package tests

import (
	"fmt"
	"math"
	"testing"

	"loop.example/g01284/impl"
)

func TestPassesFailForWrongArguments(t *testing.T) {
	at, sun := vectorOf(-2, 0.3, 0.1), vectorOf(1, 0.2, -0.1)
	track := call{"TrackOf", impl.TrackOf, []any{aBall(), anEllipse(), float32(0.3), float32(0.7), int64(3)}}
	seen := call{"SeenFrom", impl.SeenFrom, []any{aBall(), aMark(), anEllipse(), float32(0.1), float32(0.3), float32(0.7), int64(3)}}
	share := call{"ShadowShare", impl.ShadowShare, []any{aBall(), anEllipse(), sun, int64(5)}}
	for _, c := range []call{track, seen, share, {"InShadow", impl.InShadow, []any{aBall(), sun, at}}} {
		c.wantFailingTypes(t)
	}
	counts := append(wrongCounts(impl.MaxMarks), 0, 1<<32+1)
	wantFailing(t, "TrackOf", impl.TrackOf, track.list, 4, counts)
	wantFailing(t, "SeenFrom", impl.SeenFrom, seen.list, 6, counts)
	wantFailing(t, "ShadowShare", impl.ShadowShare, share.list, 3, counts)
	wantFailing(t, "ShadowShare of a branch", impl.ShadowShare, share.list, 1, []impl.Orbit{aBranch()})
}

// travel has an orbit around a ball, and times.
type travel struct {
	ball       impl.Ball
	orbit      impl.Orbit
	from, step float32
}

func travels() []travel {
	var list []travel
	for _, b := range ordinaryBalls() {
		for _, o := range []impl.Orbit{anEllipse(), aBranch(), {Long: 1}, {Long: 3, Tilt: 0.25, Node: 0.1}, {Long: 2, Round: 0.3, Tilt: 0.5, Peri: 0.6}} {
			o.Long *= 2 * b.Radius
			rate, _ := impl.RateOf(o, b.Mass)
			list = append(list, travel{b, o, -1 / rate, 0.07 / rate}, travel{b, o, 2.5 / rate, -0.04 / rate}, travel{b, o, 0.3 / rate, 0})
		}
	}
	return list
}

// placeAt returns where a ship is at the time k.
func (c travel) placeAt(k int) (impl.Vector, float32) {
	time := c.from + float32(float32(k)*c.step)
	later, _ := impl.LaterOrbit(c.orbit, c.ball.Mass, time)
	at, _, _ := impl.StateOf(later, c.ball.Mass)
	return at, time
}

func TestTrackOf(t *testing.T) {
	for i, c := range travels() {
		for _, count := range []int64{1, 2, 20, impl.MaxMarks} {
			what := fmt.Sprint("travel ", i, ", marks ", count)
			track, ok := impl.TrackOf(c.ball, c.orbit, c.from, c.step, count)
			want(t, what, ok && len(track) == int(count), true)
			for k, m := range track {
				at, time := c.placeAt(k)
				want(t, fmt.Sprint(what, ", the mark ", k), markTold(m, impl.ValidMark(m)), markTold(impl.MarkOf(c.ball, at, time)))
				back, _ := impl.PlaceOf(c.ball, m, time)
				want(t, fmt.Sprint(what, ", its place ", k), nearVectors(back, at, 5e-6*float64(impl.SizeOfVector(at))), true)
			}
		}
	}
}

func TestSeenFrom(t *testing.T) {
	var counts [2]int
	for i, c := range travels() {
		for _, m := range []impl.Mark{aMark(), markOf(0.25, 0, 0), markOf(-0.25, 0.3, 0.1), markOf(-0.05, -0.5, 0), markOf(0.1, 0.1, -0.05)} {
			for _, least := range []float32{0, -0.1, 0.1, 0.6} {
				what := fmt.Sprint("travel ", i, ", ", m, ", least ", least)
				seen, ok := impl.SeenFrom(c.ball, m, c.orbit, least, c.from, c.step, impl.MaxMarks)
				want(t, what, ok && len(seen) == impl.MaxMarks, true)
				for k, isSeen := range seen {
					at, time := c.placeAt(k)
					rise, _ := impl.RiseAt(c.ball, m, at, time)
					want(t, fmt.Sprint(what, ", the time ", k), isSeen, rise >= impl.SineTurns(least))
					counts[map[bool]int{false: 0, true: 1}[isSeen]]++
				}
			}
		}
	}
	want(t, "seen and not", counts[0] > 1000 && counts[1] > 1000, true)
}

func TestSeenAtTheLimits(t *testing.T) {
	b, o := ballOf(1, 1, 0, 0), impl.Orbit{Long: 2}
	up := func(least float32) string { return seenTold(impl.SeenFrom(b, impl.Mark{}, o, least, 0, 0, 1)) }
	want(t, "a rise of 1 is at least the sine of a quarter turn", up(0.25), "x")
	want(t, "the most turns", up(number(mostBits)), "x")
	want(t, "an orbit through the mark", seenTold(impl.SeenFrom(b, markOf(0, 0, 1), o, 0, 0, 0, 1)), "fail")
	// From 1 above a pole, a circle with the Long 2 is an eighth of a turn down.
	low, ok := impl.RiseAt(b, markOf(0.25, 0, 1), vectorOf(2, 0, 0), 0)
	want(t, "a rise", ok && near(float64(low), -math.Sqrt(0.5), 1e-6), true)
	for least, told := range map[float32]string{-0.1251: "x", -0.1249: ".", -0.25: "x", 0: "."} {
		want(t, fmt.Sprint("least ", least), seenTold(impl.SeenFrom(b, markOf(0.25, 0, 1), o, least, 0, 0, 1)), told)
	}
}

func TestTracksThatFail(t *testing.T) {
	b, most := ballOf(1, 1, 0.25, 0), number(mostBits)
	for what, row := range map[string]struct {
		orbit      impl.Orbit
		from, step float32
	}{
		"a time that is not finite":           {impl.Orbit{Long: 2}, most, most},
		"a branch beyond its phases":          {impl.Orbit{Long: -1, Round: 2, Phase: 15.9}, 0, 1},
		"a place that is not finite":          {impl.Orbit{Long: -1, Round: most, Phase: 16}, 0, 0.001},
		"a mark whose High is not finite":     {impl.Orbit{Long: 1e25}, 0, 1},
		"a face that is not finite, nearly":   {impl.Orbit{Long: -1, Round: 2}, 1e30, 1e38},
		"a step that is too long for a phase": {impl.Orbit{Long: -1, Round: 2}, 0, 101},
	} {
		want(t, what, trackTold(impl.TrackOf(b, row.orbit, row.from, row.step, 2)), "fail")
	}
	want(t, "a speed that is not finite", trackTold(impl.TrackOf(ballOf(most, 1, 0, 0), impl.Orbit{Long: number(leastBits)}, 0, 0, 2)), "fail")
	want(t, "a face that is not finite", trackTold(impl.TrackOf(ballOf(1, 1, most, 0), impl.Orbit{Long: 2}, 1, 1, 2)), "fail")
	want(t, "a face that is finite", trackTold(impl.TrackOf(ballOf(1, 1, most, 0), impl.Orbit{Long: 2}, 1, 1, 1)) != "fail", true)
	want(t, "seen, a face that is not finite", seenTold(impl.SeenFrom(ballOf(1, 1, most, 0), aMark(), impl.Orbit{Long: 2}, 0, 1, 1, 2)), "fail")
	want(t, "seen, a time that is not finite", seenTold(impl.SeenFrom(b, aMark(), impl.Orbit{Long: 2}, 0, most, most, 2)), "fail")
	want(t, "seen, the same time once", seenTold(impl.SeenFrom(b, aMark(), impl.Orbit{Long: 2}, 0, most, most, 1)) != "fail", true)
	want(t, "seen from the middle", seenTold(impl.SeenFrom(b, markOf(0.1, 0, -1), impl.Orbit{Long: 2}, 0, 0, 1, 2)), "fail")
}

// listsOf has all lists of some values.
func listsOf(count int) [][]bool {
	var lists [][]bool
	for n := range 1 << count {
		list := make([]bool, count)
		for i := range list {
			list[i] = n>>i&1 == 1
		}
		lists = append(lists, list)
	}
	return lists
}

// longLists have MaxMarks values.
func longLists() [][]bool {
	var lists [][]bool
	for _, every := range []int{1, 2, 3, 7, 63, 64} {
		one, other := make([]bool, impl.MaxMarks), make([]bool, impl.MaxMarks)
		for i := range one {
			one[i], other[i] = i%every == 0, i/every%2 == 1
		}
		lists = append(lists, one, other)
	}
	return append(lists, make([]bool, impl.MaxMarks), repeated(true, impl.MaxMarks))
}

func someLists() [][]bool {
	lists := longLists()
	for count := range 10 {
		lists = append(lists, listsOf(count)...)
	}
	return lists
}

func TestRisesAndSets(t *testing.T) {
	for _, list := range someLists() {
		var rises, sets []int64
		for i := range list {
			if i > 0 && list[i] && !list[i-1] {
				rises = append(rises, int64(i))
			}
			if i > 0 && !list[i] && list[i-1] {
				sets = append(sets, int64(i))
			}
		}
		what := seenTold(list, true)
		want(t, what+" rises", indicesTold(impl.RisesIn(list)), indicesTold(rises, true))
		want(t, what+" sets", indicesTold(impl.SetsIn(list)), indicesTold(sets, true))
	}
	want(t, "a pass at the first index does not rise", indicesTold(impl.RisesIn([]bool{true, true})), "")
	want(t, "no values", indicesTold(impl.RisesIn(nil)), "")
	want(t, "no values", indicesTold(impl.SetsIn([]bool{})), "")
	for _, x := range []bool{false, true} {
		list := repeated(x, impl.MaxMarks+1)
		list[3] = !x
		want(t, "too many values rise", indicesTold(impl.RisesIn(list)), "fail")
		want(t, "too many values set", indicesTold(impl.SetsIn(list)), "fail")
	}
}

func longestTold(first, count int64, ok bool) string {
	return toldOr(fmt.Sprint(first, " ", count), ok)
}

func TestLongestPass(t *testing.T) {
	for _, list := range someLists() {
		told, most := "fail", 0
		for from := range list {
			for to := from; to < len(list) && list[to]; to++ {
				if count := to + 1 - from; count > most {
					told, most = fmt.Sprint(from, " ", count), count
				}
			}
		}
		want(t, seenTold(list, true), longestTold(impl.LongestPass(list)), told)
	}
	for text, told := range map[string]string{
		"": "fail", ".": "fail", "...": "fail", "x": "0 1", "xx.": "0 2", ".xx": "1 2", "xx.xx": "0 2", "x.xx.xx": "2 2", "xx.xxx": "3 3", "xxx.xx": "0 3", ".x.": "1 1",
	} {
		list := make([]bool, len(text))
		for i := range list {
			list[i] = text[i] == 'x'
		}
		want(t, text, longestTold(impl.LongestPass(list)), told)
	}
	want(t, "most values", longestTold(impl.LongestPass(repeated(true, impl.MaxMarks))), "0 64")
	want(t, "too many values", longestTold(impl.LongestPass(repeated(true, impl.MaxMarks+1))), "fail")
}

func TestInShadow(t *testing.T) {
	least, less, belowOne := number(leastBits), number(minusZero), number(oneBits-1)
	b, sun := ballOf(1, 1, 0.3, 0.2), vectorOf(2, 0, 0)
	for _, row := range []struct {
		what string
		at   impl.Vector
		told string
	}{
		{"in front of the ball", vectorOf(3, 0, 0), "false"},
		{"beside it", vectorOf(0, 2, 0), "false"},
		{"behind it", vectorOf(-3, 0, 0), "true"},
		{"behind it, a bit beside", vectorOf(-3, 0.5, -0.5), "true"},
		{"behind it, farther beside", vectorOf(-3, 0.8, -0.8), "false"},
		{"far behind it", vectorOf(-1e18, 0.5, 0), "true"},
		{"at its edge", vectorOf(-3, 1, 0), "false"},
		{"just within", vectorOf(-3, belowOne, 0), "true"},
		{"at its other edge", vectorOf(-3, 0, -1), "false"},
		{"at the middle", vectorOf(0, 0, 0), "false"},
		{"in the ball, beside the middle", vectorOf(less, 0.5, 0), "false"},
		{"in the ball, just behind it", vectorOf(-least, 0.5, 0), "true"},
		{"in the ball, just in front of it", vectorOf(least, 0.5, 0), "false"},
		{"too far beside it", vectorOf(-1, 1e20, 0), "fail"},
		{"too far beside it, in front", vectorOf(1, 1e20, 0), "fail"},
		{"too far away along the way to the sun", vectorOf(-1e20, 0, 0), "true"},
	} {
		want(t, row.what, darkTold(impl.InShadow(b, sun, row.at)), row.told)
		for _, by := range []float32{0.125, 1, 1 << 40} {
			want(t, fmt.Sprint(row.what, ", the sun ", by), darkTold(impl.InShadow(b, vectorOf(by, 0, 0), row.at)), row.told)
		}
	}
	want(t, "a larger ball", darkTold(impl.InShadow(ballOf(1, number(oneBits+1), 0, 0), sun, vectorOf(-3, 1, 0))), "true")
}

func TestSuns(t *testing.T) {
	b := ballOf(1, 1, 0, 0)
	for _, x := range zeros() {
		for _, at := range []impl.Vector{vectorOf(-2, 0, 0), vectorOf(0, 0, 0), vectorOf(2, 1, 1)} {
			want(t, "a sun that is 0", darkTold(impl.InShadow(b, vectorOf(x, x, -x), at)), "fail")
			want(t, "one whose square is 0", darkTold(impl.InShadow(b, vectorOf(1e-25, x, 0), at)), "fail")
		}
	}
	want(t, "the share of a sun that is 0", numberTold(impl.ShadowShare(b, impl.Orbit{Long: 2}, vectorOf(0, 0, 0), 4)), "fail")
	want(t, "the least square", darkTold(impl.InShadow(b, vectorOf(0, 0x1p-74, 0), vectorOf(0, -2, 0))), "true")
	// All ways to the sun, with a place on the other side and one across.
	for _, x := range []float32{-3, -1, 0, 0.5, 4} {
		for _, y := range []float32{-2, 0, 1} {
			for _, z := range []float32{-1, 0, 7} {
				sun := vectorOf(x, y, z)
				if sun == (impl.Vector{}) {
					continue
				}
				across := impl.CrossOf(sun, vectorOf(0.3, -0.7, 0.55))
				within := impl.ScaleVector(across, 0.99/impl.SizeOfVector(across))
				beyond := impl.ScaleVector(across, 1.01/impl.SizeOfVector(across))
				want(t, fmt.Sprint("within, ", sun), darkTold(impl.InShadow(b, sun, impl.AddVectors(within, impl.ScaleVector(sun, -2)))), "true")
				want(t, fmt.Sprint("beyond, ", sun), darkTold(impl.InShadow(b, sun, impl.AddVectors(beyond, impl.ScaleVector(sun, -2)))), "false")
				want(t, fmt.Sprint("in front, ", sun), darkTold(impl.InShadow(b, sun, impl.AddVectors(within, impl.ScaleVector(sun, 2)))), "false")
			}
		}
	}
}

// A sun whose size is not finite fails wherever the place is, though it is
// scaled to 0, and nothing else tells it.
func TestSunsThatAreTooFarAway(t *testing.T) {
	b, most := ballOf(1, 1, 0, 0), number(mostBits)
	far, beyond := number(bitsOf(0x1p64)-1), float32(0x1p64)
	want(t, "the farthest sun", darkTold(impl.InShadow(b, vectorOf(far, 0, 0), vectorOf(-2, 0, 0))), "true")
	want(t, "the farthest sun, in front", darkTold(impl.InShadow(b, vectorOf(far, 0, 0), vectorOf(2, 0, 0))), "false")
	want(t, "its share", numberTold(impl.ShadowShare(ballOf(1, 1, 0, 0), impl.Orbit{Long: 2}, vectorOf(far, 0, 0), 4)), "3e800000")
	for _, sun := range []impl.Vector{
		vectorOf(beyond, 0, 0), vectorOf(0, -beyond, 0), vectorOf(0, 0, beyond), vectorOf(0x1p63, -0x1p63, 0x1.8p63),
		vectorOf(1e25, 0, 0), vectorOf(1, -1e30, 0), vectorOf(most, -most, most),
	} {
		for _, at := range []impl.Vector{vectorOf(-2, 0, 0), vectorOf(2, 0, 0), vectorOf(0, -2, 0), vectorOf(0, 2, 0.5), vectorOf(0, 0, 0)} {
			want(t, fmt.Sprint("the sun ", sun, ", at ", at), darkTold(impl.InShadow(b, sun, at)), "fail")
		}
		for _, count := range []int64{1, 4, impl.MaxPlaces} {
			want(t, fmt.Sprint("the share of the sun ", sun), numberTold(impl.ShadowShare(b, impl.Orbit{Long: 2}, sun, count)), "fail")
		}
	}
}

func TestShadowShare(t *testing.T) {
	for i, o := range []impl.Orbit{{Long: 2}, {Long: 1.2, Tilt: 0.1}, anEllipse(), {Long: 5, Round: 0.7, Tilt: 0.2, Node: 0.4, Peri: 0.7}, {Long: 0.5}} {
		for _, sun := range []impl.Vector{vectorOf(1, 0, 0), vectorOf(-2, 3, 0.5), vectorOf(0, 0, 1)} {
			for count := int64(1); count <= impl.MaxPlaces; count++ {
				dark := 0
				places, _ := impl.PlacesOf(o, 1.5, count)
				for _, at := range places {
					if isDark, _ := impl.InShadow(aBall(), sun, at); isDark {
						dark++
					}
				}
				want(t, fmt.Sprint("orbit ", i, ", ", sun, ", places ", count), numberTold(impl.ShadowShare(aBall(), o, sun, count)), numberText(float32(dark)/float32(count)))
			}
		}
	}
	share, ok := impl.ShadowShare(ballOf(1, 1, 0, 0), impl.Orbit{Long: 2}, vectorOf(0, 5, 0), impl.MaxPlaces)
	want(t, "a circle", ok && near(float64(share), 1.0/6, 0.5/impl.MaxPlaces+1e-6), true)
	want(t, "never", numberTold(impl.ShadowShare(aBall(), impl.Orbit{Long: 2}, vectorOf(0, 0, 1), 9)), numberText(0))
	want(t, "always but at the middle plane", numberTold(impl.ShadowShare(ballOf(1, 10, 0, 0), impl.Orbit{Long: 2}, vectorOf(1, 0, 0), 2)), numberText(0.5))
	want(t, "a place that is too far away", numberTold(impl.ShadowShare(aBall(), impl.Orbit{Long: 1e20}, vectorOf(1, 0, 0), 8)), "fail")
}

// TestWhatRisesSets lets a ship go around, and looks at its passes.
func TestWhatRisesSets(t *testing.T) {
	b, o := ballOf(1, 1, 0.01, 0), impl.Orbit{Long: 1.5, Tilt: 0.1, Node: 0.3}
	seen, ok := impl.SeenFrom(b, markOf(0.05, 0.1, 0), o, 0, 0, 0.5, impl.MaxMarks)
	want(t, "it is seen", ok, true)
	rises, _ := impl.RisesIn(seen)
	sets, _ := impl.SetsIn(seen)
	first, count, ok := impl.LongestPass(seen)
	want(t, "it rises and sets again and again", len(rises) > 1 && len(sets) > 1, true)
	want(t, "it is up between", ok && seen[first] && seen[first+count-1] && count > 1, true)
	for i := range len(rises) - 1 {
		between := 0
		for _, k := range sets {
			if k > rises[i] && k < rises[i+1] {
				between++
			}
		}
		want(t, fmt.Sprint("it sets once behind the rise ", i), between, 1)
	}
}
