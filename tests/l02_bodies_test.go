package tests

import (
	"fmt"
	"testing"

	"loop.example/g01284/impl"
)

// massAt is a body that rests.
func massAt(x, y, z, mass float32) impl.Body {
	return bodyOf(vectorOf(x, y, z), vectorOf(0, 0, 0), mass)
}

// wrongNumbers are not finite.
func wrongNumbers() []float32 {
	return []float32{number(infBits), number(lessInf), number(nanBits), number(0xffc00001)}
}

// wrongBodies has lists that are none of bodies.
func wrongBodies() [][]impl.Body {
	wrong := [][]impl.Body{repeated(massAt(1, 2, 3, 1), impl.MaxBodies+1)}
	for _, x := range wrongNumbers() {
		for _, b := range []impl.Body{
			massAt(x, 0, 0, 1), massAt(0, x, 0, 1), massAt(0, 0, x, 1), massAt(0, 0, 0, x),
			bodyOf(vectorOf(0, 0, 0), vectorOf(x, 0, 0), 1), bodyOf(vectorOf(0, 0, 0), vectorOf(0, x, 0), 1),
			bodyOf(vectorOf(0, 0, 0), vectorOf(0, 0, x), 1),
		} {
			wrong = append(wrong, []impl.Body{massAt(1, 0, 0, 1), massAt(0, 1, 0, 1), b})
		}
	}
	return append(wrong,
		[]impl.Body{massAt(0, 0, 0, -1), massAt(1, 0, 0, 1)},
		[]impl.Body{massAt(0, 0, 0, 1), massAt(1, 0, 0, -number(leastBits))},
	)
}

// wrongCores are no cores.
func wrongCores() []float32 { return append(wrongNumbers(), -1, -number(leastBits)) }

// row has as many bodies of the mass 1, 2 apart.
func row(count int) []impl.Body {
	list := make([]impl.Body, count)
	for i := range list {
		list[i] = massAt(float32(2*i), 0, 0, 1)
	}
	return list
}

func TestExamplesOfChapter2(t *testing.T) {
	pull, ok := impl.PullAt([]impl.Body{massAt(2, 0, 0, 4)}, vectorOf(0, 0, 0), 0)
	want(t, "the pull of a body of the mass 4 at 2, 0, 0", pull, vectorOf(1, 0, 0))
	want(t, "it succeeds", ok, true)
	two, ok := impl.CircleBodies(0.5, 0.5, 1)
	want(t, "two bodies that are 1 apart", bodiesText(two), bodiesText([]impl.Body{
		bodyOf(vectorOf(-0.5, 0, 0), vectorOf(0, -0.5, 0), 0.5), bodyOf(vectorOf(0.5, 0, 0), vectorOf(0, 0.5, 0), 0.5),
	}))
	want(t, "they are there", ok, true)
}

func TestAreBodies(t *testing.T) {
	less, most := number(minusZero), number(mostBits)
	for i, list := range [][]impl.Body{
		nil, {}, row(1), row(impl.MaxBodies), {massAt(0, 0, 0, 0)}, {massAt(less, less, less, less)},
		{massAt(number(leastBits), -number(subnormal), 0, number(leastBits))},
		{bodyOf(vectorOf(most, -most, most), vectorOf(-most, most, -most), most)},
		{massAt(1, 1, 1, 1), massAt(1, 1, 1, 1)},
	} {
		want(t, fmt.Sprint("bodies ", i), impl.AreBodies(list), true)
	}
	for i, list := range wrongBodies() {
		want(t, fmt.Sprint("no bodies ", i), impl.AreBodies(list), false)
	}
}

func TestSameBodies(t *testing.T) {
	nan, less := number(nanBits), number(minusZero)
	list := []impl.Body{bodyOf(vectorOf(1, 0, less), vectorOf(-1, nan, 2), -3), massAt(number(infBits), 5, 6, 0)}
	want(t, "itself", impl.SameBodies(list, list), true)
	want(t, "none and none", impl.SameBodies(nil, []impl.Body{}), true)
	want(t, "none and one", impl.SameBodies(nil, row(1)), false)
	want(t, "one less", impl.SameBodies(list, list[:1]), false)
	want(t, "one more", impl.SameBodies(list[:1], list), false)
	want(t, "more than MaxBodies", impl.SameBodies(row(20), row(20)), true)
	for i, other := range []impl.Body{
		bodyOf(vectorOf(2, 0, less), vectorOf(-1, nan, 2), -3), bodyOf(vectorOf(1, less, less), vectorOf(-1, nan, 2), -3),
		bodyOf(vectorOf(1, 0, 0), vectorOf(-1, nan, 2), -3), bodyOf(vectorOf(1, 0, less), vectorOf(1, nan, 2), -3),
		bodyOf(vectorOf(1, 0, less), vectorOf(-1, 0, 2), -3), bodyOf(vectorOf(1, 0, less), vectorOf(-1, nan, nan), -3),
		bodyOf(vectorOf(1, 0, less), vectorOf(-1, nan, 2), 3), list[1],
	} {
		want(t, fmt.Sprint("another body ", i), impl.SameBodies(list, []impl.Body{other, list[1]}), false)
	}
	alike := bodyOf(vectorOf(1, 0, less), vectorOf(-1, number(0xff812345), 2), -3)
	want(t, "another not-a-number", impl.SameBodies(list, []impl.Body{alike, list[1]}), true)
	want(t, "another order", impl.SameBodies(list, []impl.Body{list[1], list[0]}), false)
	want(t, "other masses of zero", impl.SameBodies([]impl.Body{massAt(0, 0, 0, 0)}, []impl.Body{massAt(0, 0, 0, less)}), false)
}

func TestPullsOfBodiesAtOnePlace(t *testing.T) {
	two := []impl.Body{massAt(1, 2, 3, 4), massAt(1, 2, 3, 5)}
	want(t, "no core", vectorsTold(impl.PullsOf(two, 0)), vectorText(vectorOf(0, 0, 0))+"/"+vectorText(vectorOf(0, 0, 0)))
	want(t, "a core", vectorsTold(impl.PullsOf(two, 2)), vectorText(vectorOf(0, 0, 0))+"/"+vectorText(vectorOf(0, 0, 0)))
	want(t, "a core of -0", vectorTold(impl.PullAt(two, vectorOf(1, 2, 3), number(minusZero))), vectorText(vectorOf(0, 0, 0)))
	third := append(two, massAt(3, 2, 3, 8))
	want(t, "a third one", vectorsTold(impl.PullsOf(third, 0)),
		vectorText(vectorOf(2, 0, 0))+"/"+vectorText(vectorOf(2, 0, 0))+"/"+vectorText(vectorOf(-2.25, 0, 0)))
	want(t, "the others only", vectorsTold(impl.PullsOf(row(1), 1)), vectorText(vectorOf(0, 0, 0)))
	// The core times itself is greater than 0, but not times its root: 4 is
	// divided by 0, and 0 multiplied with this.
	want(t, "a core that is too small", vectorsTold(impl.PullsOf(two, 1e-20)), "fail")
	want(t, "a core whose square is 0", vectorTold(impl.PullAt(two, vectorOf(1, 2, 3), 1e-30)), vectorText(vectorOf(0, 0, 0)))
	// A body does not pull itself, where it would not be told how.
	want(t, "a small core and one body", vectorsTold(impl.PullsOf(row(1), 1e-20)), vectorText(vectorOf(0, 0, 0)))
}

func TestPullsOfBodiesWithoutMass(t *testing.T) {
	light := []impl.Body{massAt(0, 0, 0, 0), massAt(2, 0, 0, number(minusZero)), massAt(0, -4, 0, 0)}
	zero := vectorText(vectorOf(0, 0, 0))
	want(t, "all of them", vectorsTold(impl.PullsOf(light, 0)), zero+"/"+zero+"/"+zero)
	mixed := []impl.Body{massAt(0, 0, 0, 0), massAt(2, 0, 0, 4)}
	want(t, "they are pulled", vectorsTold(impl.PullsOf(mixed, 0)), vectorText(vectorOf(1, 0, 0))+"/"+zero)
	want(t, "0 is divided by 0", vectorsTold(impl.PullsOf([]impl.Body{massAt(0, 0, 0, 0), massAt(1e-20, 0, 0, 0)}, 0)), "fail")
	want(t, "an infinite distance", vectorsTold(impl.PullsOf([]impl.Body{massAt(-3e38, 0, 0, 0), massAt(3e38, 0, 0, 0)}, 0)), "fail")
}

func TestPullsNearTheLimits(t *testing.T) {
	zero := vectorText(vectorOf(0, 0, 0))
	far := []impl.Body{massAt(2e19, 0, 0, 1)}
	want(t, "the square of the distance is infinite", vectorTold(impl.PullAt(far, vectorOf(0, 0, 0), 0)), zero)
	want(t, "the square of the core is infinite", vectorTold(impl.PullAt(row(2), vectorOf(1, 1, 1), 3e38)), zero)
	tiny := []impl.Body{massAt(number(leastBits), 0, 0, 1)}
	want(t, "the square of the distance is 0", vectorTold(impl.PullAt(tiny, vectorOf(0, 0, 0), 0)), zero)
	want(t, "a subnormal distance and a core", vectorTold(impl.PullAt(tiny, vectorOf(0, 0, 0), 1)), "00000001,00000000,00000000")
	want(t, "a subnormal mass", vectorTold(impl.PullAt([]impl.Body{massAt(0.5, 0, 0, number(leastBits))}, vectorOf(0, 0, 0), 0)), "00000004,00000000,00000000")
	want(t, "an infinite pull", vectorTold(impl.PullAt([]impl.Body{massAt(1e-10, 0, 0, 1e20)}, vectorOf(0, 0, 0), 0)), "fail")
	strong := []impl.Body{massAt(1, 0, 0, 3e38), massAt(1, 0, 0, 3e38), massAt(-1, 0, 0, 3e38)}
	want(t, "an infinite sum", vectorTold(impl.PullAt(strong, vectorOf(0, 0, 0), 0)), "fail")
	again := []impl.Body{strong[0], strong[2], strong[1]}
	want(t, "a sum in another order", vectorTold(impl.PullAt(again, vectorOf(0, 0, 0), 0)), numberText(3e38)+",00000000,00000000")
	want(t, "an infinite pull of one of them", vectorsTold(impl.PullsOf(append(row(3), massAt(0, 1e-10, 0, 1e20)), 0)), "fail")
}

func TestPullsOfNoBodyAndMany(t *testing.T) {
	want(t, "none", vectorsTold(impl.PullsOf(nil, 1)), "")
	want(t, "none at a place", vectorTold(impl.PullAt(nil, vectorOf(1, -2, number(minusZero)), 0)), vectorText(vectorOf(0, 0, 0)))
	pulls, ok := impl.PullsOf(row(impl.MaxBodies), 0)
	want(t, "MaxBodies succeed", ok, true)
	want(t, "as many pulls", len(pulls), impl.MaxBodies)
	want(t, "one more", vectorsTold(impl.PullsOf(row(impl.MaxBodies+1), 0)), "fail")
	want(t, "one more at a place", vectorTold(impl.PullAt(row(impl.MaxBodies+1), vectorOf(1, 1, 1), 0)), "fail")
}

func TestPullsAreNothingTogether(t *testing.T) {
	for i, list := range systems()[:3] {
		for _, core := range []float32{0, 0.01, 0.5, 3} {
			pulls, ok := impl.PullsOf(list, core)
			want(t, "pulls", ok, true)
			var sum [3]float64
			var most float64
			for k, p := range pulls {
				for axis, x := range []float32{p.X, p.Y, p.Z} {
					sum[axis] += float64(list[k].Mass) * float64(x)
					most = max(most, float64(list[k].Mass)*float64(x), -float64(list[k].Mass)*float64(x))
				}
			}
			for axis, x := range sum {
				if x > 1e-6*most || x < -1e-6*most {
					t.Errorf("system %d, core %v, axis %d: %v of %v", i, core, axis, x, most)
				}
			}
		}
	}
}

func TestMoves(t *testing.T) {
	less := number(minusZero)
	one := []impl.Body{bodyOf(vectorOf(2, 0, less), vectorOf(0, less, 4), 3)}
	want(t, "back", bodiesTold(impl.BackBodies(one)), bodiesText([]impl.Body{bodyOf(vectorOf(2, 0, less), vectorOf(less, 0, -4), 3)}))
	want(t, "mirror", bodiesTold(impl.MirrorBodies(one)), bodiesText([]impl.Body{bodyOf(vectorOf(2, 0, 0), vectorOf(0, less, -4), 3)}))
	want(t, "moved by zeros", bodiesTold(impl.MoveBodies(one, vectorOf(less, less, less), vectorOf(less, less, 0))), bodiesText(one))
	want(t, "a quarter", bodiesTold(impl.TurnBodies([]impl.Body{bodyOf(vectorOf(2, 1, 5), vectorOf(-1, 3, less), 3)}, 0.25)),
		bodiesText([]impl.Body{bodyOf(vectorOf(-1, 2, 5), vectorOf(-3, -1, less), 3)}))
	for what, moved := range map[string]string{
		"back": bodiesTold(impl.BackBodies(nil)), "mirror": bodiesTold(impl.MirrorBodies(nil)), "turn": bodiesTold(impl.TurnBodies(nil, 1)),
		"move": bodiesTold(impl.MoveBodies(nil, vectorOf(1, 2, 3), vectorOf(4, 5, 6))), "drop": bodiesTold(impl.DropBody(row(1), 0)),
	} {
		want(t, "no body: "+what, moved, "")
	}
	most := number(mostBits)
	edge := []impl.Body{bodyOf(vectorOf(most, most, 0), vectorOf(0, -most, 0), 1)}
	want(t, "too far", bodiesTold(impl.MoveBodies(edge, vectorOf(0, most, 0), vectorOf(0, 0, 0))), "fail")
	want(t, "too fast", bodiesTold(impl.MoveBodies(edge, vectorOf(0, 0, 0), vectorOf(0, -most, 0))), "fail")
	want(t, "turned too far", bodiesTold(impl.TurnBodies(edge, 0.125)), "fail")
	want(t, "many turns", bodiesTold(impl.TurnBodies(edge, most)), bodiesText([]impl.Body{massAt(0, 0, 0, 1)}))
}

func TestDropBody(t *testing.T) {
	list := row(impl.MaxBodies)
	for i := range list {
		want(t, fmt.Sprint("without ", i), bodiesTold(impl.DropBody(list, int64(i))), bodiesText(append(row(i), list[i+1:]...)))
	}
	for _, i := range []int64{-1, impl.MaxBodies, 1 << 32, -1 << 63, 1<<63 - 1} {
		want(t, fmt.Sprint("no index ", i), bodiesTold(impl.DropBody(list, i)), "fail")
	}
	want(t, "of none", bodiesTold(impl.DropBody(nil, 0)), "fail")
	want(t, "one more than MaxBodies", bodiesTold(impl.DropBody(row(impl.MaxBodies+1), 0)), "fail")
}

func TestMovesFailForWrongArguments(t *testing.T) {
	zero := vectorOf(0, 0, 0)
	for i, list := range wrongBodies() {
		for what, moved := range map[string]string{
			"pulls": vectorsTold(impl.PullsOf(list, 1)), "pull": vectorTold(impl.PullAt(list, vectorOf(7, 7, 7), 1)),
			"back": bodiesTold(impl.BackBodies(list)), "mirror": bodiesTold(impl.MirrorBodies(list)),
			"turn": bodiesTold(impl.TurnBodies(list, 0)), "move": bodiesTold(impl.MoveBodies(list, zero, zero)),
			"drop": bodiesTold(impl.DropBody(list, 0)), "drop the last": bodiesTold(impl.DropBody(list, int64(len(list)-1))),
		} {
			want(t, fmt.Sprint("no bodies ", i, ": ", what), moved, "fail")
		}
	}
	for _, x := range wrongNumbers() {
		for i, v := range []impl.Vector{vectorOf(x, 0, 0), vectorOf(0, x, 0), vectorOf(0, 0, x)} {
			want(t, fmt.Sprint("no place ", x, i), vectorTold(impl.PullAt(nil, v, 1)), "fail")
			want(t, fmt.Sprint("moved by ", x, i), bodiesTold(impl.MoveBodies(nil, v, zero)), "fail")
			want(t, fmt.Sprint("made faster by ", x, i), bodiesTold(impl.MoveBodies(nil, zero, v)), "fail")
		}
		want(t, fmt.Sprint("turned by ", x), bodiesTold(impl.TurnBodies(nil, x)), "fail")
	}
	for _, core := range wrongCores() {
		want(t, fmt.Sprint("pulls with the core ", core), vectorsTold(impl.PullsOf(nil, core)), "fail")
		want(t, fmt.Sprint("pull with the core ", core), vectorTold(impl.PullAt(nil, zero, core)), "fail")
	}
}
