package tests

import (
	"fmt"
	"testing"

	"loop.example/g01284/impl"
)

// The tables below come from another program, as those of chapters 2 to 4 do.

// transfer goes from a circle to another one, by a third distance.
type transfer struct {
	mass, from, by, to, now float32
}

// arcRow has a Long and a time for an arc between places.
type arcRow struct {
	mass     float32
	from, to complex64
	long     float32
	far      bool
	time     float32
}

// flyby has, beside what flies by, some turns for another one.
type flyby struct {
	mass          float32
	speed, planet complex64
	near          float32
	left          bool
	turns         float32
}

// burn has a mass, a change and a time behind it, each for another function.
type burn struct {
	jet, flow, before, after, change, time float32
}

func stageOf(empty, full, jet float32) impl.Stage {
	return impl.Stage{Empty: empty, Full: full, Jet: jet}
}

// transfers has circles of the same size, inner and outer ones, a goal ahead by
// half a turn, subnormal and great numbers, and numbers that come out not finite.
func transfers() []transfer {
	least, small, norm, most, less := oddOnes()
	return []transfer{
		{1, 1, 2, 4, 0},
		{1, 1, 1, 1, -0.5},
		{4, 2.5, 0.7, 2.5, 0.3},
		{398600.44, 6678, 200000, 42164, 1000},
		{1.3271244e11, 1.4959802e8, 3e8, 2.279392e8, 1e30},
		{1, 7, 3, 1, less},
		{0.3, 9.5, 0.01, 0.2, 0.5},
		{3, 0.1, 50, 0.1000001, -0.25},
		{least, 1, 2, 3, 7.5},
		{most, 1e10, 3e11, 2e10, least},
		{1, least, small, norm, -0.1},
		{1, 1e20, 1e25, 3e20, 0.2},
		{1, 1e26, 1, 1e26, 0.1},
		{most, least, 1, 2, 1},
	}
}

// arcs has least ones, far ones, such that go the other way around, places on
// one line with the mass, equal places, and a Long that is just too small.
func arcs() []arcRow {
	least, small, norm, most, less := oddOnes()
	return []arcRow{
		{1, complex(1, 0), complex(0, 1), 1, false, 1.5},
		{1, complex(1, 0), complex(0, 1), 1, true, 6},
		{1, complex(1, 0), complex(-1, 0), 1, false, 3},
		{3, complex(0.1, 0.7), complex(-2.3, 0.05), 1.9, false, 0.4},
		{3, complex(0.1, 0.7), complex(-2.3, 0.05), 1.9, true, 7},
		{0.2, complex(-0.7, -0.2), complex(0.4, -1.1), 5, true, 20},
		{398600.44, complex(7000, 100), complex(-3000, 41000), 30000, false, 9000},
		{398600.44, complex(7000, 100), complex(-3000, -41000), 30000, true, 60000},
		{1, complex(2, 1), complex(2, 1), 3, true, 10},
		{1, complex(2, 1), complex(2, 1), 3, false, 0.1},
		{1, complex(7, 2.59), complex(-14, -5.18), 12, false, 40},
		{1, complex(1, 1), complex(3, 3), 2.5, true, 3},
		{least, complex(0.5, 0.1), complex(0.9, -3), 2, false, 2e23},
		{1, complex(least, -small), complex(small, norm), 3e-38, true, 1e-38},
		{1, complex(1e20, 3e19), complex(-2e20, 1e20), 3e20, false, 1e31},
		{2, complex(2e25, 0), complex(0, 1e25), 2e25, true, 5e37},
		{1, complex(most, 0), complex(-most, 0), most, false, 1e38},
		{1, complex(-1, less), complex(0, -2), 2, false, 2.5},
		{5, complex(0.3, 0.3), complex(0.3000001, 0.3), 0.7, false, 1e-7},
		{1, complex(1, 0), complex(0, 1), 1000, false, 0.4},
		{1, complex(1, 0), complex(0, 1), 0.85355335, false, 2.5},
	}
}

func flybys() []flyby {
	least, small, _, most, less := oddOnes()
	return []flyby{
		{1, complex(1, 0), complex(0, 0), 1, true, 0.16666667},
		{1, complex(1, 0), complex(0, 0), 1, false, 0.25},
		{398600.44, complex(3, 4), complex(-25.5, 2.3), 7000, true, 0.1},
		{126686530, complex(-9, 3.7), complex(0.4, 13.06), 150000, false, 0.49},
		{0.1, complex(0.2, 0.3), complex(-0.1, 0.7), 0.05, true, 0.49999997},
		{least, complex(0.2, 0.3), complex(-0.1, 0.7), 0.05, false, 0.01},
		{1, complex(1, 2), complex(1, 2), 1, true, 1e-30},
		{1, complex(least, 0), complex(0, -small), 2, true, least},
		{1, complex(1e19, 1e19), complex(-2e18, 1), 1e-30, false, 0.3},
		{least, complex(3e38, 0), complex(0, 0), 3e38, true, 0.4},
		{1, complex(3e38, 0), complex(-3e38, 0), 1, true, 0.2},
		{most, complex(0.5, less), complex(0.25, less), least, true, 0.33},
		{3, complex(0.7, -0.1), complex(0.70000005, -0.1), 1, false, 1e-7},
	}
}

func burns() []burn {
	least, small, norm, most, less := oddOnes()
	return []burn{
		{3, 0.5, 10, 4, 2, 9},
		{2, 1, 1, 1, 0, 0.25},
		{4500, 120, 2500, 350.5, 9400, 17.9},
		{0.3, 7, 0.1, 0.05, 7, 0.001},
		{1, 1, 1, 0.9999999, less, 1},
		{least, 1, 5, 3, least, 2},
		{most, 1, 5, 0.1, most, 4.9999995},
		{1, small, most, norm, 88, 2},
		{1, 3, 3e38, 1e-45, 300, 1e38},
		{2, 1, 1, 2, -1, 2},
		{2, -1, 3, 2, 1, 1},
		{2, 0, 3, 2.5, 0.1, 1},
		{2, less, 3, 3, 0, 1},
	}
}

// oddOnes returns the least number, the greatest subnormal one, the next one,
// the greatest one, and -0.
func oddOnes() (least, small, norm, most, less float32) {
	return number(leastBits), number(subnormal), number(leastNorm), number(mostBits), number(minusZero)
}

func twoTold(a, b float32, ok bool) string { return numbersTold([]float32{a, b}, ok) }

func threeTold(a, b, c float32, ok bool) string { return numbersTold([]float32{a, b, c}, ok) }

func fourTold(a, b, c, d float32, ok bool) string { return numbersTold([]float32{a, b, c, d}, ok) }

func arcTold(long float32, far, ok bool) string {
	return toldOr(fmt.Sprint(numberText(long), ",", far), ok)
}

// wantOfRows tells the same of each of the rows.
func wantOfRows[T any](t *testing.T, what string, rows []T, tell func(T) string, texts ...string) {
	t.Helper()
	want(t, what+", rows", len(rows), len(texts))
	for i, c := range rows {
		want(t, fmt.Sprintf("%s of row %d", what, i), tell(c), texts[i])
	}
}

func TestTablesOfSpeeds(t *testing.T) {
	wantOfRows(t, "CircleSpeed", transfers(), func(c transfer) string { return numberTold(impl.CircleSpeed(c.mass, c.from)) },
		"3f800000", "3f800000", "3fa1e89b", "40f73a14", "41ee4705", "3ec1848f", "3e35f836", "40af456e", "1a3504f3", "5727c5ac", "64b504f3", "2edbe6ff",
		"29e12e13", "fail",
	)
	wantOfRows(t, "EscapeSpeed", transfers(), func(c transfer) string { return numberTold(impl.EscapeSpeed(c.mass, c.from)) },
		"3fb504f3", "3fb504f3", "3fe4f92e", "412ed0d8", "42287cd2", "3f08d677", "3e80ac03", "40f7def5", "1a800000", "576d4402", "65000000", "2f1b7e93",
		"2a1f39ee", "fail",
	)
	wantOfRows(t, "TiltBurn", transfers(), func(c transfer) string { return numberTold(impl.TiltBurn(c.from, c.now)) },
		"00000000", "40000000", "40817156", "00000000", "00000000", "00000000", "41980000", "3e10d0c3", "40000000", "06ea1120", "00000001", "60cbedd2",
		"6a4c7d84", "00000000",
	)
	wantOfRows(t, "MixedBurn", transfers(), func(c transfer) string { return numberTold(impl.MixedBurn(c.from, c.to, c.now)) },
		"40400000", "40000000", "40817156", "470a9e00", "4d8201fc", "40c00000", "411b3333", "3e10d0c7", "40800000", "501502f9", "007fffff", "61778dcc",
		"6a4c7d84", "40000000",
	)
}

func TestTablesOfTransfers(t *testing.T) {
	wantOfRows(t, "TwoBurns", transfers(), func(c transfer) string { return threeTold(impl.TwoBurns(c.mass, c.from, c.to)) },
		"3e87a26c,3e3c2eca,4146b118", "00000000,00000000,40490fdb", "00000000,00000000,40c6b118", "401b3fcd,3fbbc15f,46945c1b",
		"403c75b1,4029876c,4baaa3a2", "be41848f,bea54ff5,41c90fdb", "be110464,befa8cf8,42750dd4", "35b2027d,35b2027a,3d6aef9c",
		"1922bb90,18f4e2c5,66490fdb", "55cfa2b3,55ae27ff,39a40901", "6415f618,5effe000,00000000", "2dc5b00c,2d94be61,72e04eeb", "fail", "fail",
	)
	wantOfRows(t, "TwoBurns, back,", transfers(), func(c transfer) string { return threeTold(impl.TwoBurns(c.mass, c.to, c.from)) },
		"be3c2eca,be87a26c,4146b118", "00000000,00000000,40490fdb", "00000000,00000000,40c6b118", "bfbbc15f,c01b3fcd,46945c1b",
		"c029876c,c03c75b1,4baaa3a2", "3ea54ff5,3e41848f,41c90fdb", "3efa8cf8,3e110464,42750dd4", "b5b2027a,b5b2027d,3d6aef9c",
		"98f4e2c5,9922bb90,66490fdb", "d5ae27ff,d5cfa2b3,39a40901", "deffe000,e415f618,00000000", "ad94be61,adc5b00c,72e04eeb", "fail", "fail",
	)
	wantOfRows(t, "ThreeBurns", transfers(), func(c transfer) string { return fourTold(impl.ThreeBurns(c.mass, c.from, c.by, c.to)) },
		"3e1e69d1,3e74e2c5,3dbbe852,41b0c3ee", "00000000,00000000,00000000,40c90fdb", "bedb43b9,00000000,3edb43b9,40cb75db",
		"40416b71,3ef2ca60,bf607edb,48b7154c", "4093f040,4018c27b,bfcc0bb4,4c7bf6e5", "bdae7a6e,be8cbd4d,be662385,42300a13",
		"be2d9fe8,be3afc72,3f58c69a,426eab83", "4010b456,320081d4,c010b451,43e367cb", "18e007c2,190ed258,1830898a,66cdcb07",
		"56834542,5443295a,d62f3f59,3cae6d21", "6415f618,5effe001,52800001,00000000", "2e362b81,269531db,add25834,7e5366d3", "fail", "fail",
	)
	wantOfRows(t, "BestBy", transfers(), func(c transfer) string {
		return passTold(impl.BestBy(c.mass, c.from, c.to, []float32{c.by, c.from, c.to, c.by}))
	},
		"1 3ee5b9d1", "0 00000000", "1 00000000", "1 4079207c", "1 40b2fe8e", "1 3f03091e", "1 3f218795", "1 3632027c", "1 198e9679", "1 563ee559",
		"0 64161614", "1 2e2d3736", "fail", "fail",
	)
}

func TestTablesOfWindows(t *testing.T) {
	wantOfRows(t, "LeadOf", transfers(), func(c transfer) string { return numberTold(impl.LeadOf(c.mass, c.from, c.to)) },
		"3e818247", "00000000", "00000000", "3e8f2857", "3dfc44cd", "bf000000", "be55b539", "34c2fff2", "3e694d71", "3e33723d", "3ea57d85", "3e694d71",
		"00000000", "3ea57d86",
	)
	wantOfRows(t, "WindowOf", transfers(), func(c transfer) string { return twoTold(impl.WindowOf(c.mass, c.from, c.to, c.now)) },
		"40aba95f,40e5c8fa", "fail", "fail", "45827d62,45b522e7", "00000000,4c808834", "405489b4,40d489b4", "3e997fa9,3f83bc4a", "47675253,479a36e7",
		"653fa9c3,66300dc8", "39e3d657,3a0a1f9a", "00000000,00000000", "72bef11d,72c468a6", "fail", "00000000,00000000",
	)
	wantOfRows(t, "WindowOf, back,", transfers(), func(c transfer) string { return twoTold(impl.WindowOf(c.mass, c.to, c.from, c.now)) },
		"40709ebf,40e5c8fa", "fail", "fail", "419dcffe,45b522e7", "00000000,4c808834", "40982c3e,40d489b4", "3e40375a,3f83bc4a", "469a36d8,479a36e7",
		"65ce4288,66300dc8", "39a09f12,3a0a1f9a", "00000000,00000000", "72adf9eb,72c468a6", "fail", "00000000,00000000",
	)
}

func TestTablesOfPhaseOrbits(t *testing.T) {
	least, _, _, most, less := oddOnes()
	for i, row := range []struct {
		distance, turns float32
		rounds          int64
		told            string
	}{
		{1, 0.25, 1, "3f9487e5,3ded3a64"},
		{2, -0.25, 2, "3fea3211,bd6f3be1"},
		{0.5, 0.75, 1, "3f39e193,3eb60c82"},
		{0.5, -0.75, 1, "fail"},
		{0.5, -0.75, 2, "3ebb231b,bf008d2f"},
		{0.5, 0.75, 16, "3f03f82a,3d15c53a"},
		{0.5, -0.75, 16, "3ef7efa8,bd2481a0"},
		{7, 0, 1, "40e00000,00000000"},
		{7, less, 5, "40e00000,00000000"},
		{1e30, -0.6, 1, "70db44d7,a696665d"},
		{1e30, -0.7, 1, "fail"},
		{least, 0.01, 16, "00000001,5f05b0f5"},
		{most, 0.1, 3, "fail"},
		{0.3, least, 4, "3e99999a,00000000"},
	} {
		want(t, fmt.Sprint("PhaseOrbit of row ", i), twoTold(impl.PhaseOrbit(3, row.distance, row.turns, row.rounds)), row.told)
	}
}

func TestTablesOfArcs(t *testing.T) {
	wantOfRows(t, "ArcTime", arcs(), func(c arcRow) string { return numberTold(impl.ArcTime(c.mass, c.from, c.to, c.long, c.far)) },
		"3fc90fdb", "4091c92a", "40490fdb", "3fd7794c", "40f7c879", "431a9407", "461cd104", "4721a9ff", "41e865d4", "00000000", "42b00fed", "418c525f",
		"65cb9b4c", "00000000", "72253e0f", "7f7c980f", "fail", "4021b76b", "32bd7c6e", "3f7a1b92", "fail",
	)
	wantOfRows(t, "LeastArc", arcs(), func(c arcRow) string { return twoTold(impl.LeastArc(c.mass, c.from, c.to)) },
		"3f5a827a,40197fe3", "3f5a827a,40197fe3", "3f800000,40490fdb", "3fafcfc7,40387a32", "3fafcfc7,40387a32", "3f5476c0,40a5d8cc", "46b03389,4682b1b5",
		"46b094b0,46832aea", "3f8f1bbd,00000000", "3f8f1bbd,00000000", "41332180,42eb5f55", "4007c3b6,410d0ee9", "3fd890f3,661b02af", "0094cf1a,00000000",
		"6109ece2,729ea58c", "692d3f38,7e9a60f5", "fail", "3fa78dde,4092d51a", "3e593927,38a842aa", "3f5a827a,40197fe3", "3f5a827a,40197fe3",
	)
	wantOfRows(t, "ArcFor", arcs(), func(c arcRow) string { return arcTold(impl.ArcFor(c.mass, c.from, c.to, c.time)) },
		"3f866e18,false", "3f90f9a2,true", "3f802cc7,false", "432fcfc7,false", "3fe7430f,true", "3fb1d0e9,true", "4713d90a,false", "470e94f1,true",
		"3fdc02f4,true", "3f8f1fd5,true", "44b32180,false", "4387c3b6,false", "3fd98818,true", "0414cf1a,true", "6117b7af,true", "69c49074,false", "fail",
		"40032dca,false", "3e60d948,false", "42da827a,false", "3f5ab85e,true",
	)
	wantOfRows(t, "ArcSpeeds", arcs(), func(c arcRow) string { return planeTold(impl.ArcSpeeds(c.mass, c.from, c.to, c.long, c.far)) },
		"258000003f800000 bf800000a5800000", "3f3504f33f3504f3 bf3504f3bf3504f3", "fail", "c015a0ec3f999e38 bf2f3272bf3fb4be",
		"bfbd0f47400b1cf4 3f582446bf0ff8dd", "bf024ceebf001894 3cd7ecad3f0c7635", "409840b8410d4347 bfd0d6b43fed85f1", "40eea199c0d69bc1 bf7f6fea4010abc9",
		"fail", "fail", "fail", "3f364d1f3f364d1f be417c38be417c38", "1a76d4219a62508a 98dbef659976107c", "5ee5b275dee56ac6 df00aedadd5d5a15",
		"ae768ed12ef7a038 ae9670f1ae062b1a", "2a976ee72a3b2e86 aabb2e86aaf5062a", "fail", "be6b4459bf99fbf7 3f19fbf7bebe55c2",
		"4081b2be34689db5 4081b2bdb4689db3", "bf0a73d23fa735e3 bfa735e33f0a73d2", "fail",
	)
}

func TestTablesOfFlybys(t *testing.T) {
	wantOfRows(t, "FlybyTurn", flybys(), func(c flyby) string { return numberTold(impl.FlybyTurn(c.mass, impl.LongOf(c.speed), c.near)) },
		"3e2aaaab", "3e2aaaab", "3e7a6cca", "3eb630d8", "3ec6c434", "00000031", "3d5a517f", "3f000000", "30dabdac", "fail", "00000000", "3f000000",
		"3ea7d082",
	)
	wantOfRows(t, "FlybySpeed", flybys(), func(c flyby) string { return pointTold(impl.FlybySpeed(c.mass, c.speed, c.planet, c.near, c.left)) },
		"3f0000003f5db3d7", "3f000000bf5db3d7", "402244d040f66170", "c09a454a41ca09ab", "3d53c59e3f96954a", "3e4cccce3e99999a", "fail", "8000000180fffffe",
		"5f0ac7235f0ac723", "fail", "fail", "0000000000000000", "3f333335bdcccccd",
	)
	wantOfRows(t, "NearestFor", flybys(), func(c flyby) string { return numberTold(impl.NearestFor(c.mass, impl.LongOf(c.speed), c.turns)) },
		"3f7fffff", "3ed413cd", "470b43e8", "4425201a", "a9069d89", "000000ed", "6f4db3f4", "fail", "000cda4f", "00000000", "00000000", "7f25abd1",
		"4b91b5ee",
	)
	wantOfRows(t, "AimOf", flybys(), func(c flyby) string { return numberTold(impl.AimOf(c.mass, impl.LongOf(c.speed), c.near)) },
		"3fddb3d7", "3fddb3d7", "4680e5f4", "491ef2ee", "3e904ad7", "3d4ccccd", "3f97739f", "fail", "0da24260", "7f61b1e6", "3f800000", "3affffff",
		"4066c15a",
	)
}

func TestTablesOfBurns(t *testing.T) {
	wantOfRows(t, "BurnOf", burns(), func(c burn) string { return numberTold(impl.BurnOf(c.jet, c.before, c.after)) },
		"402fed86", "00000000", "460a2456", "3e54ef51", "34000000", "00000001", "fail", "43300f34", "433fe033", "fail", "3f4f991f", "3ebab281", "00000000",
	)
	wantOfRows(t, "FuelFor", burns(), func(c burn) string { return numberTold(impl.FuelFor(c.jet, c.after, c.change)) },
		"40729eb3", "00000000", "451b01db", "4e221fc6", "00000000", "40a4f47f", "3e2ff3ba", "3ff882b7", "fail", "fail", "3fa61299", "3e034107", "00000000",
	)
	wantOfRows(t, "BurnTime", burns(), func(c burn) string { return numberTold(impl.BurnTime(c.jet, c.flow, c.before, c.change)) },
		"411bb4df", "00000000", "4192077b", "3c6a0ea1", "00000000", "404a4751", "404a4751", "fail", "7e967699", "fail", "bf97179c", "fail", "fail",
	)
	wantOfRows(t, "AfterBurn", burns(), func(c burn) string { return twoTold(impl.AfterBurn(c.jet, c.flow, c.before, c.time)) },
		"3fe591c5,40b00000", "3f134b11,3f400000", "4609d777,43b00002", "3cb25989,3dbe76c9", "fail", "00000001,40400000", "fail", "00000000,7f7fffff",
		"41899f1a,73000000", "fail", "fail", "00000000,40400000", "00000000,40400000",
	)
}

func TestTablesOfStages(t *testing.T) {
	least, small, norm, most, less := oddOnes()
	for i, row := range []struct {
		list []impl.Stage
		load float32
		told string
	}{
		{[]impl.Stage{stageOf(1, 2.7182817, 3)}, 0, "40400000"},
		{[]impl.Stage{stageOf(0, 1, 2)}, 1, "3fb17218"},
		{[]impl.Stage{stageOf(0, 1, 2)}, 0, "fail"},
		{[]impl.Stage{stageOf(10, 100, 3), stageOf(3, 30, 4), stageOf(1, 8, 4.5)}, 2, "41500a10"},
		{[]impl.Stage{stageOf(0, 100, 3), stageOf(0, 30, 4), stageOf(0, 8, 4.5)}, least, "43f21b6d"},
		{[]impl.Stage{stageOf(less, 5, 1), stageOf(1, 2, 1)}, less, "3ff91395"},
		{[]impl.Stage{stageOf(0.5, 0.50000006, 1)}, 0, "33ffffff"},
		{[]impl.Stage{stageOf(1, 2, most), stageOf(1, 2, most)}, 3, "7ec12cb5"},
		{[]impl.Stage{stageOf(least, small, 1), stageOf(norm, 1, 0.1)}, 0, "410bbd0d"},
		{[]impl.Stage{
			stageOf(0, 1, 0.1), stageOf(1, 4, 0.2), stageOf(2, 7, 0.3), stageOf(3, 10, 0.4),
			stageOf(4, 13, 0.5), stageOf(5, 16, 0.6), stageOf(6, 19, 0.7), stageOf(7, 22, 0.8),
		}, 0.5, "3fb3205a"},
		{[]impl.Stage{stageOf(1, 2, 1), stageOf(2, 2, 1)}, 1, "fail"},
		{[]impl.Stage{stageOf(1e30, 3e38, 7), stageOf(1, 3e38, 3)}, 3e38, "409d5dc7"},
	} {
		want(t, fmt.Sprint("StagesChange of row ", i), numberTold(impl.StagesChange(row.list, row.load)), row.told)
	}
}

// TestTablesOfNarrowing has numbers that would differ by a bit if one on the
// way were narrowed, or were not.
func TestTablesOfNarrowing(t *testing.T) {
	want(t, "a lead is not narrowed", twoTold(impl.WindowOf(1, 1, 3, 0.375)), "3f929052,40f8fa4b")
	want(t, "a lead is not narrowed, back", twoTold(impl.WindowOf(1, 3, 1.5, -0.25)), "416d8a18,418ed915")
	want(t, "burns are narrowed before they are added", passTold(impl.BestBy(1, 3, 1.5, []float32{7})), "0 3ecf8e4c")
	want(t, "sums of burns are those of 32-bit numbers", passTold(impl.BestBy(1, 2, 5, []float32{9})), "0 3ead1087")
	want(t, "each sum of them", passTold(impl.BestBy(1, 1, 2, []float32{4})), "0 3eeec1ac")
	want(t, "a speed far away is narrowed", pointTold(impl.FlybySpeed(1, complex(1, 1), 0, 0.5, true)), "bebb67af3faed9eb")
	want(t, "a speed less that of a planet is narrowed", pointTold(impl.FlybySpeed(1, complex(0.5, 0.2), complex(0.4, -0.8), 1, true)), "bed3462fbe55bb84")
	want(t, "the least time is not narrowed", arcTold(impl.ArcFor(1, 1, -1, 3.1415927)), "3f800000,true")
	want(t, "the time before it", arcTold(impl.ArcFor(1, 1, -1, 3.1415925)), "3f800000,false")
}
