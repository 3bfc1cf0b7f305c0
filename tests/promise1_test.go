package tests

import (
	"fmt"
	"go/ast"
	"go/parser"
	"go/token"
	"math"
	"reflect"
	"strings"
	"testing"

	"loop.example/g01284/impl"
)

// landed has the files of the chapters whose promises have landed.
func landed() []string {
	return []string{"l01_numbers.go", "l02_bodies.go", "l03_orbits.go", "l04_frames.go", "l05_transfers.go", "l06_tracks.go", "l07_fits.go", "l08_desk.go"}
}

// functions has each function of these files with its name.
func functions() map[string]any {
	return map[string]any{
		"SameNumber": impl.SameNumber, "IsFinite": impl.IsFinite, "BitsOf": impl.BitsOf, "FromBits": impl.FromBits,
		"NarrowNumber": impl.NarrowNumber, "IsSubnormal": impl.IsSubnormal, "FlushNumber": impl.FlushNumber,
		"SameComplex": impl.SameComplex, "IsFiniteComplex": impl.IsFiniteComplex, "NarrowComplex": impl.NarrowComplex,
		"MulComplex": impl.MulComplex, "ScaleComplex": impl.ScaleComplex, "ConjugateOf": impl.ConjugateOf,
		"PowerOf": impl.PowerOf, "LongOf": impl.LongOf, "QuotientOf": impl.QuotientOf, "PhasorOf": impl.PhasorOf,
		"AngleOf": impl.AngleOf, "SineTurns": impl.SineTurns, "AngleTurns": impl.AngleTurns, "TenthsOf": impl.TenthsOf,
		"RootNumber": impl.RootNumber, "LogNumber": impl.LogNumber, "ExpNumber": impl.ExpNumber,
		"SumNumbers": impl.SumNumbers, "DotNumbers": impl.DotNumbers, "SumComplex": impl.SumComplex,
		"DotComplex": impl.DotComplex, "DotConjugate": impl.DotConjugate, "PowersOf": impl.PowersOf,
		"AddVectors": impl.AddVectors, "LessVectors": impl.LessVectors, "ScaleVector": impl.ScaleVector,
		"InnerOf": impl.InnerOf, "CrossOf": impl.CrossOf, "SizeOfVector": impl.SizeOfVector,
		"BetweenVectors": impl.BetweenVectors, "SameVector": impl.SameVector, "VectorText": impl.VectorText,
		"ReadVector": impl.ReadVector, "NumbersText": impl.NumbersText, "ReadNumbers": impl.ReadNumbers,
		"ComplexText": impl.ComplexText, "ReadComplex": impl.ReadComplex, "IsName": impl.IsName,
		"Decimal": impl.Decimal, "ReadDecimal": impl.ReadDecimal, "ListText": impl.ListText,
		"ReadList": impl.ReadList, "CheckOf": impl.CheckOf,

		"AreBodies": impl.AreBodies, "SameBodies": impl.SameBodies, "PullsOf": impl.PullsOf, "PullAt": impl.PullAt,
		"StepBodies": impl.StepBodies, "RunBodies": impl.RunBodies, "HalvedBodies": impl.HalvedBodies,
		"BackBodies": impl.BackBodies, "MoveBodies": impl.MoveBodies, "TurnBodies": impl.TurnBodies,
		"MirrorBodies": impl.MirrorBodies, "DropBody": impl.DropBody, "MassOfBodies": impl.MassOfBodies,
		"CentreOfBodies": impl.CentreOfBodies, "RestBodies": impl.RestBodies, "MomentumOfBodies": impl.MomentumOfBodies,
		"TurningOfBodies": impl.TurningOfBodies, "EnergyOfBodies": impl.EnergyOfBodies, "NearestBodies": impl.NearestBodies,
		"NearestPass": impl.NearestPass, "CircleBodies": impl.CircleBodies, "PolygonBodies": impl.PolygonBodies,
		"FourthBodies": impl.FourthBodies, "BoundTo": impl.BoundTo,

		"ValidOrbit": impl.ValidOrbit, "SameOrbit": impl.SameOrbit, "CircleOrbit": impl.CircleOrbit, "SwingOf": impl.SwingOf,
		"PhaseOfSwing": impl.PhaseOfSwing, "LeanOf": impl.LeanOf, "PhaseOfLean": impl.PhaseOfLean, "TrueTurn": impl.TrueTurn,
		"PlaneOf": impl.PlaneOf, "StateOf": impl.StateOf, "OrbitOf": impl.OrbitOf, "RateOf": impl.RateOf,
		"PeriodOf": impl.PeriodOf, "LaterOrbit": impl.LaterOrbit, "NearOf": impl.NearOf, "FarOf": impl.FarOf,
		"BesideOf": impl.BesideOf, "SpeedAt": impl.SpeedAt, "EnergyOfOrbit": impl.EnergyOfOrbit,
		"TurningOfOrbit": impl.TurningOfOrbit, "PlacesOf": impl.PlacesOf, "TiltBetween": impl.TiltBetween,
		"NearestOrbits": impl.NearestOrbits,

		"IsShare": impl.IsShare, "ValidShip": impl.ValidShip, "SameShip": impl.SameShip, "MassesAt": impl.MassesAt,
		"PotentialAt": impl.PotentialAt, "SlopeAt": impl.SlopeAt, "BendsAt": impl.BendsAt, "PushOn": impl.PushOn,
		"ConstantOf": impl.ConstantOf, "SpeedFor": impl.SpeedFor, "PointsOf": impl.PointsOf, "GatesOf": impl.GatesOf,
		"SwaysAt": impl.SwaysAt, "IsSteady": impl.IsSteady, "StepShip": impl.StepShip, "RunShip": impl.RunShip,
		"TraceShip": impl.TraceShip, "MirrorShip": impl.MirrorShip, "TurnIn": impl.TurnIn, "TurnOut": impl.TurnOut,
		"CrossingsOf": impl.CrossingsOf, "ClosestPass": impl.ClosestPass, "PartingOf": impl.PartingOf, "ReachMap": impl.ReachMap,

		"CircleSpeed": impl.CircleSpeed, "EscapeSpeed": impl.EscapeSpeed, "TwoBurns": impl.TwoBurns, "ThreeBurns": impl.ThreeBurns,
		"BestBy": impl.BestBy, "PhaseOrbit": impl.PhaseOrbit, "LeadOf": impl.LeadOf, "WindowOf": impl.WindowOf,
		"TiltBurn": impl.TiltBurn, "MixedBurn": impl.MixedBurn, "ArcTime": impl.ArcTime, "LeastArc": impl.LeastArc,
		"ArcFor": impl.ArcFor, "ArcSpeeds": impl.ArcSpeeds, "FlybyTurn": impl.FlybyTurn, "FlybySpeed": impl.FlybySpeed,
		"NearestFor": impl.NearestFor, "AimOf": impl.AimOf, "ValidStage": impl.ValidStage, "BurnOf": impl.BurnOf,
		"FuelFor": impl.FuelFor, "StagesChange": impl.StagesChange, "BurnTime": impl.BurnTime, "AfterBurn": impl.AfterBurn,

		"ValidBall": impl.ValidBall, "SameBall": impl.SameBall, "ValidMark": impl.ValidMark, "SameMark": impl.SameMark,
		"WrapTurn": impl.WrapTurn, "PlaceOf": impl.PlaceOf, "MarkOf": impl.MarkOf, "ArcBetween": impl.ArcBetween,
		"RiseAt": impl.RiseAt, "HorizonOf": impl.HorizonOf, "TrackOf": impl.TrackOf, "SeenFrom": impl.SeenFrom,
		"RisesIn": impl.RisesIn, "SetsIn": impl.SetsIn, "LongestPass": impl.LongestPass, "InShadow": impl.InShadow,
		"ShadowShare": impl.ShadowShare, "CoverOf": impl.CoverOf, "CoverShared": impl.CoverShared, "CoverShare": impl.CoverShare,
		"DriftsOf": impl.DriftsOf, "DriftOrbit": impl.DriftOrbit, "StillLong": impl.StillLong, "ThinAt": impl.ThinAt,
		"SinkLong": impl.SinkLong, "SinkRun": impl.SinkRun,

		"AreLooks": impl.AreLooks, "SameLooks": impl.SameLooks, "LookAt": impl.LookAt, "NoisyLooks": impl.NoisyLooks,
		"MissOf": impl.MissOf, "SquareOfMisses": impl.SquareOfMisses, "WorstLook": impl.WorstLook, "DropLooks": impl.DropLooks,
		"WeighLooks": impl.WeighLooks, "SolveSquare": impl.SolveSquare, "SlopesOfLook": impl.SlopesOfLook, "FitStep": impl.FitStep,
		"FitOrbit": impl.FitOrbit, "ValidEntry": impl.ValidEntry, "SameEntries": impl.SameEntries, "AreEntries": impl.AreEntries,
		"PutEntry": impl.PutEntry, "DropEntry": impl.DropEntry, "FindEntry": impl.FindEntry, "StoreEntry": impl.StoreEntry,
		"LoadEntry": impl.LoadEntry, "StoreEntries": impl.StoreEntries, "RecoverEntries": impl.RecoverEntries,

		"ValidDesk": impl.ValidDesk, "SameDesk": impl.SameDesk, "NewDesk": impl.NewDesk, "BodiesText": impl.BodiesText,
		"ReadBodies": impl.ReadBodies, "BallText": impl.BallText, "ReadBall": impl.ReadBall, "OrbitText": impl.OrbitText,
		"ReadOrbit": impl.ReadOrbit, "ShipText": impl.ShipText, "ReadShip": impl.ReadShip, "EntriesText": impl.EntriesText,
		"ReadEntries": impl.ReadEntries, "DeskCommand": impl.DeskCommand, "RunDesk": impl.RunDesk, "CountOutputs": impl.CountOutputs,
		"JournalOf": impl.JournalOf, "RecoverJournal": impl.RecoverJournal, "RunJournal": impl.RunJournal,
	}
}

func TestEveryFunctionIsCalled(t *testing.T) {
	known := functions()
	count := 0
	for _, name := range landed() {
		file, err := parser.ParseFile(token.NewFileSet(), "../impl/"+name, nil, parser.SkipObjectResolution)
		if err != nil {
			t.Fatal(err)
		}
		for _, d := range file.Decls {
			f, ok := d.(*ast.FuncDecl)
			if !ok || f.Recv != nil || !f.Name.IsExported() {
				continue
			}
			count++
			if known[f.Name.Name] == nil {
				t.Errorf("no test of promise 1 calls %s", f.Name.Name)
			}
		}
	}
	want(t, "functions", len(known), count)
}

func oddNumbers() []float32 {
	var list []float32
	for _, bits := range []uint32{
		plusZero, leastBits, subnormal, leastNorm, 0x3dcccccd, 0x3e800000, 0x3f400000, oneBits, 0x3fc00000, 0x40200000,
		0x43480000, 0x43480001, 0x4b000000, 0x59800000, mostBits, infBits, nanBits,
	} {
		list = append(list, number(bits), number(bits|minusZero))
	}
	return list
}

func oddWide() []float64 {
	list := []float64{1e-320, -1e-320, 1e300, -1e300, 0.6, -0.1, 1 + 0x1p-24, 0x1p52 - 0.5, 1e-40}
	for _, x := range oddNumbers() {
		list = append(list, float64(x))
	}
	return list
}

func oddComplex() []complex64 {
	parts := []float32{0, number(minusZero), 1, -2.5, number(leastBits), number(mostBits), number(lessInf), number(nanBits)}
	var list []complex64
	for _, a := range parts {
		for _, b := range parts {
			list = append(list, complex(a, b))
		}
	}
	return list
}

func oddVectors() []impl.Vector {
	list := oddNumbers()
	var out []impl.Vector
	for i, x := range list {
		if i%3 == 0 {
			out = append(out, vectorOf(x, list[(i+7)%len(list)], list[(i+16)%len(list)]))
		}
	}
	return append(out, vectorOf(3, 4, 0), vectorOf(1e30, -1e30, 1))
}

func oddIntegers() []int64 {
	return []int64{
		math.MinInt64, -impl.MaxValue - 1, -impl.MaxValue, -1, 0, 1, 2, 7, 16, 17, 64, 65, 255, impl.CheckSize - 1, impl.CheckSize,
		nanBits, nanBits + 1, 4294967295, 4294967296, impl.MaxValue, impl.MaxValue + 1, math.MaxInt64,
	}
}

func oddTexts() []string {
	list := []string{
		"none", "a", "moon", "abcdefgh", "abcdefghi", "7", "-12", "1,2", "-0", "1000000000000000", "7fc00000", "00000001,80000000",
		"3f800000,00000000,c0000000", "3f80000000000000", "7fc00000ff800000,0000000080000000", strings.Repeat(",", 300),
		strings.Repeat("3f800000,", 255) + "3f800000", strings.Repeat("3f800000,", 256) + "3f800000", strings.Repeat("1,", 64) + "1",
		storedEntry(anEntry()), storedEntries(catalogOf(impl.MaxEntries + 1)), storedEntry(anEntry())[:30], "ORB1\xff", storedEntries(wrongEntries()[:9]),
	}
	return append(append(append(list, noNumbers()...), noDecimals()...), deskTexts()...)
}

// deskTexts has texts of parts of a desk, lines, scripts, outputs and journals.
func deskTexts() []string {
	list := []string{
		"", "\n", "no\nwhat\n\nok\n", "mass\nshare\nkeep moo\nrun 00000000 3c23d70a 2", "share 3f800000", "keep Moon", "drop none", strings.Repeat("\n", impl.MaxScript), strings.Repeat("\n", impl.MaxScript+1),
		bodiesText(systems()[1]), ballText(aBall()), orbitText(aBranch()), shipText(shipOf(1, 2, 3, 4)), plainEntries(namedList("a", "none")), journalOf(drawnLines(5, 40)), journalOf([]string{"mass", "share 3f000000"}) + "7",
	}
	for _, f := range forms() {
		list = append(list, f.line())
	}
	return append(list, scriptOf(list[16:]), scriptOf(drawnLines(7, 60)))
}

// oddDesks has few that are none.
func oddDesks() []impl.Desk {
	all := wrongDesks()
	return append(desks(), all[0], all[1], all[20], all[60], all[100], all[len(all)-1])
}

// oddValues has arguments of each type that a function takes.
func oddValues() map[reflect.Type][]reflect.Value {
	odd := map[reflect.Type][]reflect.Value{}
	addValues(odd, oddNumbers())
	addValues(odd, oddWide())
	addValues(odd, oddComplex())
	addValues(odd, []complex128{0, complex(1e300, -1e-320), complex(0.1, math.Copysign(0, -1)), complex(math.NaN(), math.Inf(-1))})
	addValues(odd, oddVectors())
	addValues(odd, oddIntegers())
	addValues(odd, oddTexts())
	addValues(odd, [][]float32{nil, {}, {number(minusZero)}, {1, 2, 3}, oddNumbers(), repeated(float32(0.1), 256), repeated(float32(1), 257), {1, -2}, {3, 1, 1, 3}, {0, 2, 1, 3, 0, 1, 1, 1, 0}})
	addValues(odd, [][]complex64{nil, {}, {complex(1, number(minusZero))}, {1, 2, 3}, oddComplex(), repeated(complex64(complex(0.1, -3)), 256), repeated(complex64(1), 257)})
	addValues(odd, [][]int64{nil, {}, {0}, {-3, 2, 2}, oddIntegers(), {impl.MaxValue, -impl.MaxValue}, repeated(int64(7), 64), repeated(int64(7), 65)})
	addValues(odd, oddBodies())
	addValues(odd, oddOrbits())
	addValues(odd, oddShips())
	addValues(odd, []bool{false, true})
	addValues(odd, oddStages())
	addValues(odd, oddLists())
	addValues(odd, oddBalls())
	addValues(odd, oddMarks())
	addValues(odd, oddSights())
	for _, list := range oddLooks() {
		addValues(odd, list)
	}
	addValues(odd, oddLooks())
	addValues(odd, append(wrongEntries()[:20], anEntry(), entryOf("a", 1, aBranch()), entryOf("zzzzzzzz", number(leastBits), impl.Orbit{Long: 1})))
	addValues(odd, oddDesks())
	addValues(odd, append(someJournals(), []string{"\n"}, []string{"mass", "a\nb"}, make([]string, impl.MaxScript), repeated("mass", 1000), oddTexts()[:40]))
	addValues(odd, append(wrongEntryLists()[:20], nil, []impl.Entry{}, namedList("moon"), namedList("a", "moon", "z"), catalogOf(7), catalogOf(impl.MaxEntries)))
	return odd
}

// oddLooks has few lists with looks that are none.
func oddLooks() [][]impl.Look {
	nan, less, most := number(nanBits), number(minusZero), number(mostBits)
	list := [][]impl.Look{
		nil, {}, {{}, lookOf(nan, nan, nan, nan, nan)}, {lookOf(1, 2, 3, 4, -1)}, {lookOf(less, less, less, less, less)}, {lookOf(0, most, -most, most, 0), aLook()},
		repeated(aLook(), impl.MaxLooks), repeated(aLook(), impl.MaxLooks+1),
	}
	for _, c := range watchings()[:6] {
		list = append(list, c.looks)
	}
	return list
}

// oddBalls has few that are none.
func oddBalls() []impl.Ball {
	nan, most := number(nanBits), number(mostBits)
	list := append(ordinaryBalls(), impl.Ball{}, ballOf(nan, nan, nan, nan), ballOf(1, 1, number(infBits), 0), ballOf(-1, most, most, -most))
	for _, c := range views() {
		list = append(list, c.ball)
	}
	return list
}

// oddMarks has few that are none.
func oddMarks() []impl.Mark {
	nan, most := number(nanBits), number(mostBits)
	list := []impl.Mark{markOf(nan, nan, nan), markOf(0, 0.5, 0), markOf(-most, most, most), markOf(0, 0, number(lessInf))}
	for _, c := range views() {
		list = append(list, c.mark, c.other)
	}
	return list
}

// oddSights has lists of what is seen, or covered, and what is not.
func oddSights() [][]bool {
	return append(longLists()[10:],
		nil, []bool{}, []bool{true}, []bool{false}, []bool{false, true, true, false}, []bool{true, false, false, true, true, false, true},
		make([]bool, 7*7), make([]bool, impl.MaxMarks+1), repeated(true, 16*16), repeated(true, 16*16+1),
	)
}

// oddStages has few that are none.
func oddStages() []impl.Stage {
	nan, less, most := number(nanBits), number(minusZero), number(mostBits)
	return []impl.Stage{{}, stageOf(nan, nan, nan), stageOf(less, 1, 2), stageOf(1, 2, 3), stageOf(1, most, most), stageOf(0, number(leastBits), number(subnormal)), stageOf(2, 1, 1)}
}

// oddLists has lists of stages, few of them with one that is none.
func oddLists() [][]impl.Stage {
	list := [][]impl.Stage{nil, {}, oddStages(), repeated(stageOf(1, 2, 3), impl.MaxStages), repeated(stageOf(1, 2, 3), impl.MaxStages+1), oddStages()[2:6]}
	for _, s := range oddStages() {
		list = append(list, []impl.Stage{s}, []impl.Stage{s, stageOf(0.5, 8, 1)})
	}
	return list
}

// oddShips has few that are none.
func oddShips() []impl.Ship {
	nan, most := number(nanBits), number(mostBits)
	list := []impl.Ship{shipOf(nan, nan, nan, nan), shipOf(0, number(infBits), 1, 1), shipOf(1, 1, 0, number(lessInf)), shipOf(most, -most, most, most)}
	for _, c := range scenes() {
		list = append(list, c.ship)
	}
	return list
}

// oddOrbits has few that are none.
func oddOrbits() []impl.Orbit {
	nan, less, most := number(nanBits), number(minusZero), number(mostBits)
	return append(orbits(),
		impl.Orbit{}, impl.Orbit{Long: nan, Round: nan, Tilt: nan, Node: nan, Peri: nan, Phase: nan}, impl.Orbit{Long: less, Phase: nan},
		impl.Orbit{Long: most, Round: most, Tilt: most, Node: most, Peri: most, Phase: most}, impl.Orbit{Long: -most, Round: most, Phase: 16},
		impl.Orbit{Long: number(infBits)}, impl.Orbit{Long: 1, Tilt: -1}, impl.Orbit{Long: 1, Phase: 1}, impl.Orbit{Long: number(lessInf), Round: 2},
	)
}

// oddBodies has few lists that are none of bodies, so that most calls of the
// functions that take more succeed.
func oddBodies() [][]impl.Body {
	nan, less := number(nanBits), number(minusZero)
	list := append(systems(), nil, []impl.Body{}, row(1), row(impl.MaxBodies), row(impl.MaxBodies+1))
	return append(list,
		[]impl.Body{massAt(less, less, less, less), massAt(0, 0, 0, 0), massAt(number(leastBits), 0, -number(subnormal), number(leastNorm))},
		[]impl.Body{massAt(1, 1, 1, 1), bodyOf(vectorOf(1, 1, nan), vectorOf(nan, 0, 0), 1)},
		[]impl.Body{bodyOf(vectorOf(1e38, -1e38, 2e38), vectorOf(3e38, 0, -3e38), number(mostBits)), massAt(0, 0, 0, 1e20)},
		[]impl.Body{massAt(0, 0, 0, -1), massAt(1, 0, 0, number(infBits))},
	)
}

func addValues[T any](odd map[reflect.Type][]reflect.Value, list []T) {
	for _, x := range list {
		t := reflect.TypeOf(x)
		odd[t] = append(odd[t], reflect.ValueOf(x))
	}
}

// argumentsOf returns all choices of one odd value for each parameter, or
// some thousands of them that are spread evenly, where there are too many.
func argumentsOf(f reflect.Type, odd map[reflect.Type][]reflect.Value) [][]reflect.Value {
	const most, some, far = 8000, 2000, 2654435761
	total := 1
	for i := range f.NumIn() {
		total *= len(odd[f.In(i)])
	}
	count, stride := total, 1
	if total > most {
		count, stride = some, far
	}
	choices := make([][]reflect.Value, count)
	for n := range choices {
		rest := n * stride % total
		for i := range f.NumIn() {
			values := odd[f.In(i)]
			choices[n] = append(choices[n], values[rest%len(values)])
			rest /= len(values)
		}
	}
	return choices
}

// textOf tells a value to the last bit, where all not-a-numbers are one, and
// a nil slice is an empty one.
func textOf(v reflect.Value) string {
	switch v.Kind() {
	case reflect.Float32:
		return fmt.Sprintf("%08x", bitsOf(float32(v.Float())))
	case reflect.Float64:
		if math.IsNaN(v.Float()) {
			return "nan"
		}
		return fmt.Sprintf("%016x", math.Float64bits(v.Float()))
	case reflect.Complex64, reflect.Complex128:
		return textOf(reflect.ValueOf(real(v.Complex()))) + textOf(reflect.ValueOf(imag(v.Complex())))
	case reflect.Slice:
		var parts []string
		for i := range v.Len() {
			parts = append(parts, textOf(v.Index(i)))
		}
		return "[" + strings.Join(parts, " ") + "]"
	case reflect.Struct:
		var parts []string
		for i := range v.NumField() {
			parts = append(parts, textOf(v.Field(i)))
		}
		return "{" + strings.Join(parts, " ") + "}"
	}
	return fmt.Sprintf("%#v", v.Interface())
}

func textsOf(list []reflect.Value) string {
	var parts []string
	for _, v := range list {
		parts = append(parts, textOf(v))
	}
	return strings.Join(parts, "; ")
}

// copyOf returns an equal value: its slices have the told unused capacity,
// and its not-a-numbers the told bits.
func copyOf(v reflect.Value, spare int, nan uint32) reflect.Value {
	out := reflect.New(v.Type()).Elem()
	out.Set(v)
	part := float64(number(nan))
	switch v.Kind() {
	case reflect.Float32, reflect.Float64:
		if math.IsNaN(v.Float()) {
			out.SetFloat(part)
		}
	case reflect.Complex64, reflect.Complex128:
		a, b := real(v.Complex()), imag(v.Complex())
		if math.IsNaN(a) {
			a = part
		}
		if math.IsNaN(b) {
			b = part
		}
		out.SetComplex(complex(a, b))
	case reflect.Slice:
		if v.IsNil() && spare == 0 {
			return out
		}
		out.Set(reflect.MakeSlice(v.Type(), v.Len(), v.Len()+spare))
		for i := range v.Len() {
			out.Index(i).Set(copyOf(v.Index(i), spare, nan))
		}
	case reflect.Struct:
		for i := range v.NumField() {
			out.Field(i).Set(copyOf(v.Field(i), spare, nan))
		}
	}
	return out
}

func copiesOf(list []reflect.Value, spare int, nan uint32) []reflect.Value {
	out := make([]reflect.Value, len(list))
	for i, v := range list {
		out[i] = copyOf(v, spare, nan)
	}
	return out
}

// extended returns a value whose slices are as long as they can be.
func extended(v reflect.Value) reflect.Value {
	switch v.Kind() {
	case reflect.Slice:
		return v.Slice(0, v.Cap())
	case reflect.Struct:
		out := reflect.New(v.Type()).Elem()
		for i := range v.NumField() {
			out.Field(i).Set(extended(v.Field(i)))
		}
		return out
	}
	return v
}

// wholeOf shows the unused capacity of slices as well.
func wholeOf(list []reflect.Value) string {
	out := make([]reflect.Value, len(list))
	for i, v := range list {
		out[i] = extended(v)
	}
	return textsOf(out)
}

// overwrite puts zeros in place of all that the returned slices hold.
func overwrite(results []reflect.Value) {
	for _, v := range results {
		whole := extended(v)
		switch whole.Kind() {
		case reflect.Slice:
			for i := range whole.Len() {
				whole.Index(i).SetZero()
			}
		case reflect.Struct:
			for i := range whole.NumField() {
				overwrite([]reflect.Value{whole.Field(i)})
			}
		}
	}
}

func failed(results []reflect.Value) bool {
	last := results[len(results)-1]
	return len(results) > 1 && last.Kind() == reflect.Bool && !last.Bool()
}

// checkCall returns whether the function has succeeded.
func checkCall(t *testing.T, name string, f reflect.Value, arguments []reflect.Value) bool {
	t.Helper()
	first := copiesOf(arguments, 3, nanBits)
	second := copiesOf(arguments, 0, 0xffc12345)
	before, what := wholeOf(first), name+" of "+textsOf(arguments)
	if len(what) > 300 {
		what = what[:300] + " .."
	}
	results := f.Call(first)
	told, fails := textsOf(results), failed(results)
	if fails {
		for _, r := range results[:len(results)-1] {
			want(t, "what fails is zero: "+what, textOf(r), textOf(reflect.Zero(r.Type())))
		}
	}
	overwrite(results)
	want(t, "arguments stay as they are: "+what, wholeOf(first), before)
	want(t, "equal results for equal arguments: "+what, textsOf(f.Call(second)), told)
	want(t, "equal results in the second call: "+what, textsOf(f.Call(first)), told)
	return !fails
}

func TestFunctionsArePureAndReturn(t *testing.T) {
	odd := oddValues()
	for name, f := range functions() {
		v := reflect.ValueOf(f)
		succeeded := 0
		for _, arguments := range argumentsOf(v.Type(), odd) {
			if checkCall(t, name, v, arguments) {
				succeeded++
			}
		}
		if succeeded == 0 {
			t.Errorf("no call of %s has succeeded", name)
		}
	}
}
