package tests

import (
	"fmt"
	"math"
	"testing"

	"loop.example/g01284/impl"
)

func TestNumbersOfBurns(t *testing.T) {
	less := append(wrongNumbers(), -number(leastBits), -1)
	for _, a := range []arguments{
		{"BurnOf", impl.BurnOf, numbersOf(2, 3, 1), []int{0, 1, 2}, nil},
		{"FuelFor", impl.FuelFor, numbersOf(2, 3, 1), []int{0, 1}, nil},
		{"BurnTime", impl.BurnTime, numbersOf(2, 0.5, 3, 1), []int{0, 2}, []int{1}},
		{"AfterBurn", impl.AfterBurn, numbersOf(2, 0.5, 3, 1), []int{0, 2, 3}, []int{1}},
	} {
		a.wantFailingNumbers(t)
	}
	wantFailing(t, "FuelFor, no change", impl.FuelFor, numbersOf(2, 3, 1), 2, less)
	wantFailing(t, "BurnTime, no change", impl.BurnTime, numbersOf(2, 0.5, 3, 1), 3, less)
	wantFailing(t, "StagesChange, no load", impl.StagesChange, []any{[]impl.Stage{stageOf(1, 2, 3)}, float32(1)}, 1, less)
}

// wrongStages are none.
func wrongStages() []impl.Stage {
	list := []impl.Stage{{}, stageOf(1, 1, 1), stageOf(1, number(oneBits-1), 1), stageOf(0, number(minusZero), 1), stageOf(2, 1, 1), stageOf(0, -1, 1)}
	for _, x := range append(wrongNumbers(), -1, -number(leastBits)) {
		list = append(list, stageOf(x, 2, 1), stageOf(0, x, 1), stageOf(1, 2, x))
	}
	for _, x := range zeros() {
		list = append(list, stageOf(1, 2, x), stageOf(x, x, 1))
	}
	return list
}

func TestValidStage(t *testing.T) {
	least, most, less := number(leastBits), number(mostBits), number(minusZero)
	for _, s := range []impl.Stage{stageOf(1, 2, 3), stageOf(0, least, least), stageOf(less, least, most), stageOf(0, most, 1), stageOf(1, number(oneBits+1), 1), stageOf(number(0x7f7ffffe), most, most)} {
		want(t, fmt.Sprint(s), impl.ValidStage(s), true)
		_, ok := impl.StagesChange([]impl.Stage{s}, most)
		want(t, fmt.Sprint("the change of ", s), ok, true)
	}
	for _, s := range wrongStages() {
		want(t, fmt.Sprint(s), impl.ValidStage(s), false)
		for _, list := range [][]impl.Stage{{s}, {stageOf(1, 2, 3), s}, {s, stageOf(1, 2, 3)}} {
			want(t, fmt.Sprint("the change of ", list), numberTold(impl.StagesChange(list, 1)), "fail")
		}
	}
}

func TestBurnOf(t *testing.T) {
	for _, row := range []struct{ jet, before, after float32 }{{1, 2, 1}, {4500, 3e6, 100}, {0.3, 7, 6.9}, {1e-20, 1e30, 1e-30}} {
		change, ok := impl.BurnOf(row.jet, row.before, row.after)
		goal := float64(row.jet) * math.Log(float64(row.before)/float64(row.after))
		want(t, fmt.Sprint(row), ok && near(float64(change), goal, 1e-6*goal), true)
	}
	most, least := number(mostBits), number(leastBits)
	for _, mass := range []float32{1, 3.3, most, least} {
		want(t, fmt.Sprint("no fuel of ", mass), numberTold(impl.BurnOf(most, mass, mass)), numberText(0))
		want(t, fmt.Sprint("less than no fuel of ", mass), numberTold(impl.BurnOf(1, number(bitsOf(mass)-1), mass)), "fail")
	}
	_, ok := impl.BurnOf(1, number(oneBits+1), 1)
	want(t, "the least fuel", ok, true)
	change, ok := impl.BurnOf(1, most, least)
	want(t, "most of it", ok && near(float64(change), 277*math.Ln2, 1e-4), true)
	want(t, "a change that is not finite", numberTold(impl.BurnOf(most, 3, 1)), "fail")
	_, ok = impl.BurnOf(most, 2, 1)
	want(t, "a change that is finite", ok, true)
}

func TestFuelFor(t *testing.T) {
	for _, row := range []struct{ jet, before, after float32 }{{1, 2, 1}, {4500, 3e6, 100}, {0.3, 7, 5}, {1e-20, 1e3, 1e-3}} {
		change, _ := impl.BurnOf(row.jet, row.before, row.after)
		fuel, ok := impl.FuelFor(row.jet, row.after, change)
		want(t, fmt.Sprint(row), ok && near(float64(fuel/(row.before-row.after)), 1, 3e-6), true)
	}
	for _, x := range zeros() {
		want(t, "no change", numberTold(impl.FuelFor(2, 3, x)), numberText(0))
	}
	want(t, "a change for which exp is not finite", numberTold(impl.FuelFor(1, number(leastBits), 201)), "fail")
	want(t, "fuel that is not finite", numberTold(impl.FuelFor(1, 1, 89)), "fail")
	_, ok := impl.FuelFor(1, 1e-30, 89)
	want(t, "fuel that is finite", ok, true)
}

// TestStagesChange adds the changes of stages one by one, the first one with
// all others above it.
func TestStagesChange(t *testing.T) {
	want(t, "the limit", impl.MaxStages, 8)
	var list []impl.Stage
	for k := range impl.MaxStages {
		x := float32(impl.MaxStages - k)
		list = append(list, stageOf(x/8, x*x, 1+x/4))
		for _, load := range []float32{0.5, 3, 200} {
			what := fmt.Sprint("stages ", k+1, ", the load ", load)
			goal, above := 0.0, float64(load)
			for i := k; i >= 0; i-- {
				full, empty := float64(list[i].Full)+above, float64(list[i].Empty)+above
				goal += float64(list[i].Jet) * math.Log(full/empty)
				above = full
			}
			change, ok := impl.StagesChange(list, load)
			want(t, what, ok && near(float64(change), goal, 1e-6*goal), true)
		}
	}
	want(t, "too many stages", numberTold(impl.StagesChange(append(list, stageOf(1, 2, 3)), 1)), "fail")
	want(t, "no stages", numberTold(impl.StagesChange(nil, 1)), "fail")
	want(t, "an empty list", numberTold(impl.StagesChange([]impl.Stage{}, 1)), "fail")
}

func TestOneStageIsABurn(t *testing.T) {
	for _, row := range []struct{ jet, before, after float32 }{{1, 2, 1}, {4500, 3e6, 100}, {0.3, 7, 6.9}, {1, 1, number(leastBits)}} {
		told := numberTold(impl.BurnOf(row.jet, row.before, row.after))
		for _, x := range zeros() {
			want(t, fmt.Sprint(row), numberTold(impl.StagesChange([]impl.Stage{stageOf(row.after, row.before, row.jet)}, x)), told)
		}
	}
}

func TestStagesWhoseEmptyIsZero(t *testing.T) {
	least := number(leastBits)
	for _, x := range zeros() {
		for _, load := range zeros() {
			want(t, "nothing is left", numberTold(impl.StagesChange([]impl.Stage{stageOf(x, 2, 1)}, load)), "fail")
			want(t, "nothing is left at last", numberTold(impl.StagesChange([]impl.Stage{stageOf(1, 2, 1), stageOf(x, 2, 1)}, load)), "fail")
			told, ok := impl.StagesChange([]impl.Stage{stageOf(x, 2, 1), stageOf(1, 2, 1)}, load)
			want(t, "another stage is left", ok && near(float64(told), 2*math.Ln2, 1e-6), true)
		}
		told, ok := impl.StagesChange([]impl.Stage{stageOf(x, 3, 2)}, 1)
		want(t, "the load is left", ok && near(float64(told), 4*math.Ln2, 1e-6), true)
		told, ok = impl.StagesChange([]impl.Stage{stageOf(x, least, 2)}, least)
		want(t, "the least load is left", ok && near(float64(told), 2*math.Ln2, 1e-6), true)
	}
	want(t, "changes that are not finite together", numberTold(impl.StagesChange([]impl.Stage{stageOf(1, 4, number(mostBits))}, 0)), "fail")
}

func TestBurnTimesAreBurnt(t *testing.T) {
	for _, row := range []burn{{jet: 2, flow: 0.25, before: 5, change: 1}, {jet: 4500, flow: 120, before: 3e5, change: 9400}, {jet: 0.3, flow: 1e-9, before: 1e-3, change: 0.01}} {
		what := fmt.Sprint(row)
		time, ok := impl.BurnTime(row.jet, row.flow, row.before, row.change)
		want(t, what, ok, true)
		change, left, ok := impl.AfterBurn(row.jet, row.flow, row.before, time)
		want(t, what+", its change", ok && near(float64(change/row.change), 1, 1e-5), true)
		want(t, what+", what is left", near(float64(left), float64(row.before)-float64(row.flow)*float64(time), 1e-6*float64(row.before)), true)
		again, ok := impl.BurnOf(row.jet, row.before, left)
		want(t, what+", from what is left", ok && near(float64(again/change), 1, 1e-5), true)
	}
	for _, x := range zeros() {
		want(t, "no change", numberTold(impl.BurnTime(2, 3, 4, x)), numberText(0))
		want(t, "no flow", numberTold(impl.BurnTime(2, x, 4, 1)), "fail")
		want(t, "no flow and no change", numberTold(impl.BurnTime(2, x, 4, 0)), "fail")
	}
	want(t, "all is burnt", numberTold(impl.BurnTime(1, 2, 5, 201)), numberText(2.5))
	want(t, "a time that is not finite", numberTold(impl.BurnTime(1, number(leastBits), 1, 1)), "fail")
	want(t, "a flow that makes more", numberTold(impl.BurnTime(1, -2, 5, 201)), numberText(-2.5))
}

func TestWhatIsLeft(t *testing.T) {
	want(t, "a half", twoTold(impl.AfterBurn(1, 0.5, 2, 2)), "3f317218,3f800000")
	want(t, "nothing", twoTold(impl.AfterBurn(1, 0.5, 2, 4)), "fail")
	want(t, "less than nothing", twoTold(impl.AfterBurn(1, 0.5, 2, 5)), "fail")
	_, left, ok := impl.AfterBurn(1, 1, 1, number(oneBits-1))
	want(t, "very little", ok && left == 0x1p-24, true)
	// What is left is greater than 0, and is 0 when it is narrowed.
	more, less := number(oneBits+1), float32(1-0x1p-23)
	want(t, "too little", twoTold(impl.AfterBurn(1, more, 0x1p-104, less*0x1p-104)), "fail")
	_, left, ok = impl.AfterBurn(1, more, 0x1p-103, less*0x1p-103)
	want(t, "the least number", numberTold(left, ok), numberText(number(leastBits)))
	for _, x := range zeros() {
		want(t, "no flow", twoTold(impl.AfterBurn(1, x, 3, 7)), "00000000,40400000")
	}
	want(t, "a flow that makes more", twoTold(impl.AfterBurn(1, -1, 3, 7)), "fail")
	want(t, "a flow that makes more than there can be", twoTold(impl.AfterBurn(1, -1, number(mostBits), number(mostBits))), "fail")
	want(t, "a change that is not finite", twoTold(impl.AfterBurn(number(mostBits), 1, 4, 3.5)), "fail")
	want(t, "a burn that burns nothing", twoTold(impl.AfterBurn(1, number(leastBits), 1, 1)), "00000000,3f800000")
}
