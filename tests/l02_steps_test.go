package tests

import (
	"fmt"
	"testing"

	"loop.example/g01284/impl"
)

// falling is a body of no mass that falls toward one at the middle.
func falling() []impl.Body {
	return []impl.Body{massAt(0, 0, 0, 4), massAt(2, 0, 0, 0)}
}

func TestStepBodies(t *testing.T) {
	// The pull at 2 is 1, and at 1.5 it is 4 / 2.25.
	pull := float32(-1.5) * (4 / float32(3.375))
	want(t, "a step", bodiesTold(impl.StepBodies(falling(), 0, 1)),
		bodiesText([]impl.Body{massAt(0, 0, 0, 4), bodyOf(vectorOf(1.5, 0, 0), vectorOf(-0.5+pull/2, 0, 0), 0)}))
	want(t, "a step back", bodiesTold(impl.StepBodies(falling(), 0, -1)),
		bodiesText([]impl.Body{massAt(0, 0, 0, 4), bodyOf(vectorOf(1.5, 0, 0), vectorOf(0.5-pull/2, 0, 0), 0)}))
	want(t, "a tick of 0", bodiesTold(impl.StepBodies(falling(), 0, 0)), bodiesText(falling()))
	free := []impl.Body{bodyOf(vectorOf(1, 2, 3), vectorOf(4, -5, 6), 7)}
	want(t, "a body alone", bodiesTold(impl.StepBodies(free, 0.5, -2)), bodiesText([]impl.Body{bodyOf(vectorOf(-7, 12, -9), vectorOf(4, -5, 6), 7)}))
	want(t, "no body", bodiesTold(impl.StepBodies(nil, 0, 3)), "")
	want(t, "no body, four steps", bodiesTold(impl.FourthBodies(nil, 0, 3)), "")
}

func TestStepsThroughOnePlace(t *testing.T) {
	together := []impl.Body{
		bodyOf(vectorOf(1, 1, 1), vectorOf(-1, 0, 0), 1), bodyOf(vectorOf(1, 1, 1), vectorOf(1, 0, 0), 1),
	}
	apart := []impl.Body{
		bodyOf(vectorOf(0, 1, 1), vectorOf(-0.875, 0, 0), 1), bodyOf(vectorOf(2, 1, 1), vectorOf(0.875, 0, 0), 1),
	}
	want(t, "apart", bodiesTold(impl.StepBodies(together, 0, 1)), bodiesText(apart))
	want(t, "together again", bodiesTold(impl.StepBodies(apart, 0, -1)), bodiesText(together))
	heavy := []impl.Body{bodyOf(vectorOf(-1, 0, 0), vectorOf(0.75, 0, 0), 1), bodyOf(vectorOf(1, 0, 0), vectorOf(-0.75, 0, 0), 1)}
	want(t, "pulls end where bodies meet", bodiesTold(impl.StepBodies(heavy, 0, 1)),
		bodiesText([]impl.Body{bodyOf(vectorOf(-0.125, 0, 0), vectorOf(0.875+8, 0, 0), 1), bodyOf(vectorOf(0.125, 0, 0), vectorOf(-0.875-8, 0, 0), 1)}))
}

func TestStepsWithoutMass(t *testing.T) {
	light := []impl.Body{bodyOf(vectorOf(1, 0, 0), vectorOf(0, 1, 0), 0), bodyOf(vectorOf(1, 0, 0), vectorOf(0, -1, 2), 0)}
	want(t, "they go straight on", bodiesTold(impl.RunBodies(light, 0, 0.5, 4)), bodiesText([]impl.Body{
		bodyOf(vectorOf(1, 2, 0), vectorOf(0, 1, 0), 0), bodyOf(vectorOf(1, -2, 4), vectorOf(0, -1, 2), 0),
	}))
}

func TestStepsThatLeadTooFar(t *testing.T) {
	most := number(mostBits)
	fast := []impl.Body{bodyOf(vectorOf(most, 0, 0), vectorOf(most, 0, 0), 1)}
	want(t, "too far", bodiesTold(impl.StepBodies(fast, 0, 1)), "fail")
	want(t, "not at all", bodiesTold(impl.StepBodies(fast, 0, 0)), bodiesText(fast))
	want(t, "back", bodiesTold(impl.StepBodies(fast, 0, -1)), bodiesText([]impl.Body{bodyOf(vectorOf(0, 0, 0), vectorOf(most, 0, 0), 1)}))
	strong := []impl.Body{bodyOf(vectorOf(0, 0, 0), vectorOf(0, 0, 0), 0), massAt(1, 0, 0, 1e38)}
	want(t, "too fast on the way", bodiesTold(impl.StepBodies(strong, 0, 8)), "fail")
	passing := []impl.Body{massAt(0, 0, 0, 0x1p100), bodyOf(vectorOf(0x1p44, 1, 0), vectorOf(-0x1p10, 0, 0), 0)}
	want(t, "too fast in the end", bodiesTold(impl.StepBodies(passing, 0, 0x1p34)), "fail")
	passing[0].Mass = 0x1p90
	want(t, "fast in the end", bodiesTold(impl.StepBodies(passing, 0, 0x1p34)),
		bodiesText([]impl.Body{passing[0], bodyOf(vectorOf(0, 1, 0), vectorOf(-0x1p10, -0x1p123, 0), 0)}))
	want(t, "a run that fails at last", bodiesTold(impl.RunBodies([]impl.Body{bodyOf(vectorOf(0, 0, 0), vectorOf(1e38, 0, 0), 1)}, 0, 1, 4)), "fail")
	want(t, "a run that just succeeds", bodiesTold(impl.RunBodies([]impl.Body{bodyOf(vectorOf(0, 0, 0), vectorOf(1e38, 0, 0), 1)}, 0, 1, 3)),
		bodiesText([]impl.Body{bodyOf(vectorOf(float32(1e38)+1e38+1e38, 0, 0), vectorOf(1e38, 0, 0), 1)}))
}

func TestRunBodiesMakesSteps(t *testing.T) {
	for i, list := range systems() {
		now := list
		for n := range int64(impl.MaxRun + 1) {
			want(t, fmt.Sprint("system ", i, ", steps ", n), bodiesTold(impl.RunBodies(list, 0.2, 0.03, n)), bodiesText(now))
			now, _ = impl.StepBodies(now, 0.2, 0.03)
		}
		for _, n := range []int64{-1, impl.MaxRun + 1, -1 << 63, 1<<63 - 1} {
			want(t, fmt.Sprint("system ", i, ", steps ", n), bodiesTold(impl.RunBodies(list, 0.2, 0.03, n)), "fail")
		}
	}
	want(t, "no body", bodiesTold(impl.RunBodies(nil, 0, 1, impl.MaxRun)), "")
	many := row(impl.MaxBodies)
	want(t, "MaxBodies", bodiesTold(impl.RunBodies(many, 0, 0, 2)), bodiesText(many))
}

func TestStepsAreUndone(t *testing.T) {
	for i, list := range systems()[:3] {
		for _, tick := range []float32{0.01, -0.05, 0.2} {
			there, ok := impl.RunBodies(list, 0.3, tick, 8)
			want(t, "there", ok, true)
			back, ok := impl.RunBodies(there, 0.3, -tick, 8)
			want(t, "and back", ok, true)
			for k, b := range back {
				place := impl.SizeOfVector(impl.LessVectors(b.At, list[k].At))
				speed := impl.SizeOfVector(impl.LessVectors(b.Speed, list[k].Speed))
				if place > 2e-5 || speed > 2e-5 || b.Mass != list[k].Mass {
					t.Errorf("system %d, tick %v, body %d: %v, %v", i, tick, k, b, list[k])
				}
			}
			if impl.SizeOfVector(impl.LessVectors(there[0].At, list[0].At)) < 0.01 {
				t.Errorf("system %d, tick %v: nothing has moved", i, tick)
			}
		}
	}
}

func TestHalvedBodiesCompareWithFinerSteps(t *testing.T) {
	list := systems()[1]
	for m := int64(1); m <= 16; m *= 2 {
		coarse, _ := impl.RunBodies(list, 0.4, 1.1/float32(m), m)
		fine, _ := impl.RunBodies(list, 0.4, 1.1/float32(2*m), 2*m)
		far := float32(0)
		for i := range fine {
			far = max(far, impl.SizeOfVector(impl.LessVectors(coarse[i].At, fine[i].At)))
		}
		what := fmt.Sprint("near enough with ", m)
		want(t, what, halvedTold(impl.HalvedBodies(list, 0.4, 1.1, far)), fmt.Sprint(bodiesText(fine), " ", m))
		below := number(bitsOf(far) - 1)
		_, parts, ok := impl.HalvedBodies(list, 0.4, 1.1, below)
		want(t, what+", just not", ok && parts <= m, false)
		want(t, what+", with 16 it is the last", ok, m < 16)
	}
}

func TestHalvedBodies(t *testing.T) {
	free := []impl.Body{bodyOf(vectorOf(1, 2, 3), vectorOf(4, -5, 6), 7)}
	moved := bodiesText([]impl.Body{bodyOf(vectorOf(9, -8, 15), vectorOf(4, -5, 6), 7)})
	want(t, "nothing to compare", halvedTold(impl.HalvedBodies(nil, 0, 1, 0)), " 1")
	want(t, "a body alone", halvedTold(impl.HalvedBodies(free, 0, 2, 0)), moved+" 1")
	want(t, "near is -0", halvedTold(impl.HalvedBodies(free, 0, 2, number(minusZero))), moved+" 1")
	want(t, "a tick of 0", halvedTold(impl.HalvedBodies(systems()[1], 0, 0, 0)), bodiesText(systems()[1])+" 1")
	near := []impl.Body{massAt(0, 0, 0, 0), bodyOf(vectorOf(1, 1e-18, 0), vectorOf(-1, 0, 0), 0)}
	want(t, "0 is divided by 0 in the end", halvedTold(impl.HalvedBodies(near, 0, 1, 1)), "fail")
	want(t, "it is not on the way", halvedTold(impl.HalvedBodies(near, 0, 0.75, 1)),
		bodiesText([]impl.Body{near[0], bodyOf(vectorOf(0.25, 1e-18, 0), vectorOf(-1, 0, 0), 0)})+" 1")
}

func TestHalvedBodiesWhereSomePartsFail(t *testing.T) {
	// A tick of 1 brings both bodies of no mass so near together that 0 is
	// divided by 0. Shorter and longer ticks do not.
	list := []impl.Body{
		massAt(4, 0, 0, 16), bodyOf(vectorOf(0, 0, 1e-20), vectorOf(-0.5, 0, 0), 0), bodyOf(vectorOf(2, 0, 0), vectorOf(-4, 0, 0), 0),
	}
	want(t, "a tick of 1", bodiesTold(impl.StepBodies(list, 0, 1)), "fail")
	for tick, parts := range map[float32]int64{1: 2, 2: 4} {
		fine, ok := impl.RunBodies(list, 0, 0.25, int64(4*tick))
		want(t, "ticks of 0.25", ok, true)
		want(t, fmt.Sprint("a tick of ", tick), halvedTold(impl.HalvedBodies(list, 0, tick, 1e10)), fmt.Sprint(bodiesText(fine), " ", parts))
	}
}

func TestFourthBodiesAreThreeSteps(t *testing.T) {
	for i, list := range systems() {
		now := list
		for _, part := range []float32{1.3512072, -1.7024144, 1.3512072} {
			now, _ = impl.StepBodies(now, 0.2, 0.4*part)
		}
		want(t, fmt.Sprint("system ", i), bodiesTold(impl.FourthBodies(list, 0.2, 0.4)), bodiesText(now))
	}
	fast := []impl.Body{bodyOf(vectorOf(3e38, 0, 0), vectorOf(3e37, 0, 0), 1)}
	want(t, "the first step fails", bodiesTold(impl.FourthBodies(fast, 0, 1)), "fail")
	want(t, "the second step fails", bodiesTold(impl.FourthBodies([]impl.Body{bodyOf(vectorOf(-3.3e38, 0, 0), vectorOf(1e38, 0, 0), 1)}, 0, -3)), "fail")
	want(t, "the tick becomes infinite", bodiesTold(impl.FourthBodies(row(1), 0, 3e38)), "fail")
}

func TestStepsFailForWrongArguments(t *testing.T) {
	one := row(1)
	for i, list := range wrongBodies() {
		for what, told := range stepsTold(list, 1, 0, 0) {
			want(t, fmt.Sprint("no bodies ", i, ": ", what), told, "fail")
		}
		want(t, fmt.Sprint("no bodies ", i, ": no step"), bodiesTold(impl.RunBodies(list, 1, 0, 0)), "fail")
	}
	for _, core := range wrongCores() {
		for what, told := range stepsTold(one, core, 1, 1) {
			want(t, fmt.Sprint("the core ", core, ": ", what), told, "fail")
		}
		want(t, fmt.Sprint("the core ", core, ": no step"), bodiesTold(impl.RunBodies(one, core, 1, 0)), "fail")
		want(t, fmt.Sprint("the core ", core, ": near"), halvedTold(impl.HalvedBodies(one, 1, 1, core)), "fail")
	}
	for _, tick := range wrongNumbers() {
		for what, told := range stepsTold(one, 0, tick, 1) {
			want(t, fmt.Sprint("the tick ", tick, ": ", what), told, "fail")
		}
		want(t, fmt.Sprint("the tick ", tick, ": no step"), bodiesTold(impl.RunBodies(one, 0, tick, 0)), "fail")
	}
	for what, told := range stepsTold(one, number(minusZero), number(minusZero), number(minusZero)) {
		want(t, fmt.Sprint("zeros: ", what), told != "fail", true)
	}
}

func stepsTold(list []impl.Body, core, tick, near float32) map[string]string {
	return map[string]string{
		"step": bodiesTold(impl.StepBodies(list, core, tick)), "run": bodiesTold(impl.RunBodies(list, core, tick, 1)),
		"halved": halvedTold(impl.HalvedBodies(list, core, tick, near)), "fourth": bodiesTold(impl.FourthBodies(list, core, tick)),
	}
}
