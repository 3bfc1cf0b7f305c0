package tests

import (
	"fmt"
	"testing"

	"loop.example/g01284/impl"
)

// orbits has the orbits of the tables below, which come from another program,
// as those of chapter 2 do: circles, orbits in the plane, ellipses and branches
// at the limits of their numbers, and orbits of subnormal numbers and of -0.
func orbits() []impl.Orbit {
	belowOne, aboveOne, less := number(oneBits-1), number(oneBits+1), number(minusZero)
	least, small := number(leastBits), number(subnormal)
	return []impl.Orbit{
		{Long: 1},
		{Long: 2.5, Tilt: 0.2, Node: 0.3, Peri: 0.4, Phase: 0.7},
		{Long: 3, Round: 0.5, Peri: 0.25, Phase: 0.125},
		{Long: 1.7, Round: 0.3, Tilt: 0.5, Node: 0.6, Peri: 0.1, Phase: 0.9},
		{Long: 1.3, Round: 0.2, Tilt: 0.1, Node: 0.15, Peri: 0.8, Phase: 0.35},
		{Long: 40, Round: 0.97, Tilt: 0.25, Node: 0.5, Peri: 0.55, Phase: 0.02},
		{Long: 0.01, Round: 0.65, Tilt: 0.37, Node: 0.91, Peri: 0.05, Phase: 0.5},
		{Long: 1e5, Round: belowOne, Tilt: 0.5, Node: belowOne, Peri: belowOne, Phase: belowOne},
		{Long: -1.5, Round: 1.8, Tilt: 0.3, Node: 0.2, Peri: 0.6, Phase: 0.4},
		{Long: -2, Round: 3, Phase: -0.7},
		{Long: -0.3, Round: aboveOne, Tilt: 0.45, Node: 0.75, Peri: 0.33, Phase: 16},
		{Long: -7e4, Round: 25, Tilt: 0.12, Node: 0.66, Peri: 0.97, Phase: -16},
		{Long: least, Round: 0.4, Tilt: small, Node: least, Peri: small, Phase: least},
		{Long: 3e38, Round: 0.5, Tilt: 0.05, Node: 0.4, Peri: 0.2, Phase: 0.45},
		{Long: 1, Round: less, Tilt: less, Node: less, Peri: less, Phase: less},
		{Long: -1, Round: 2, Tilt: less, Node: less, Peri: less, Phase: less},
	}
}

func orbitText(o impl.Orbit) string {
	return vectorText(vectorOf(o.Long, o.Round, o.Tilt)) + "," + vectorText(vectorOf(o.Node, o.Peri, o.Phase))
}

func orbitTold(o impl.Orbit, ok bool) string { return toldOr(orbitText(o), ok) }

func complexText(x complex64) string { return numberText(real(x)) + numberText(imag(x)) }

func planeTold(at, speed complex64, ok bool) string {
	return toldOr(complexText(at)+" "+complexText(speed), ok)
}

// wantOfOrbits tells the same of each of the orbits.
func wantOfOrbits(t *testing.T, what string, tell func(impl.Orbit) string, rows ...string) {
	t.Helper()
	for i, o := range orbits() {
		want(t, fmt.Sprintf("%s of orbit %d", what, i), tell(o), rows[i])
	}
}

// wantHalves has rows with the bits of a Round, of a second number, and of
// what is told of both.
func wantHalves(t *testing.T, what string, tell func(float32, float32) (float32, bool), rows [][3]uint32) {
	t.Helper()
	for _, row := range rows {
		want(t, fmt.Sprintf("%s of %08x", what, row), numberTold(tell(number(row[0]), number(row[1]))), numberText(number(row[2])))
	}
}

func TestTablesOfPlanes(t *testing.T) {
	wantOfOrbits(t, "PlaneOf", func(o impl.Orbit) string { return planeTold(impl.PlaneOf(o, 1.7)) },
		"3f80000000000000 800000003fa6e43f",
		"bf45c55bc0182b46 3f48c559be827808",
		"bf1660d4401e65a1 bf5881eb3e6f7f4e",
		"3f1b272ebf9c9440 3f7077393f47a567",
		"bf9550e73f69b6e9 bf3824e8bf2f893c",
		"c14c41e540ec3ef7 bed95c073db53267",
		"bc872b0280000000 00000000c0c0295c",
		"c108f545bee75fe7 3f212b693c8809b9",
		"bf80d5ef40a254df bf329c9d3f922a2a",
		"3fd1bc99c12f6675 3ea50ed73f835625",
		"c1fbbd2a3c7e20aa c019cbca3a99cd8c",
		"49b182fecadb1c62 394abf193ba2e522",
		"0000000100000000 8000000065344376",
		"fail",
		"3f80000000000000 800000003fa6e43f",
		"3f80000000000000 8000000040108848",
	)
	wantOfOrbits(t, "TrueTurn", func(o impl.Orbit) string { return numberTold(impl.TrueTurn(o)) },
		"00000000", "be99999a", "3e92fd3a", "be350830", "3ec9e363", "3ed54669", "3f000000", "befbb3b7",
		"3e8ff602", "be67d1b6", "3efff5b8", "be5f6ea8", "00000000", "3ef61922", "00000000", "00000000",
	)
}

func TestTablesOfStates(t *testing.T) {
	wantOfOrbits(t, "StateOf", func(o impl.Orbit) string { return twoVectorsTold(impl.StateOf(o, 1.7)) },
		"3f800000,00000000,00000000 80000000,3fa6e43f,00000000",
		"bf874756,3fe440e9,3fb2e2ac bd3d9509,bf06519b,3f226d55",
		"c01e65a1,bf1660d4,80000000 be6f7f4e,bf5881eb,80000000",
		"bf1b272b,bf9c9441,00000000 bf70773b,3f47a565,80000000",
		"bf1cc0a2,3f8948b0,3f51642a bf52b26a,bef73921,3e8e1cba",
		"c166c329,80000000,c044e3f3 bedcb82a,00000000,3d40af76",
		"bc3a7063,3c3a0c1e,bb739668 406a5814,40139fbf,c0853948",
		"c108f545,3ee75fe7,00000000 3f212b69,bc8809b9,80000000",
		"3e1026fd,407c85c6,c055cab6 3e6c65bf,3f9cb39d,befa2793",
		"3fd1bc99,c12f6675,80000000 3ea50ed7,3f835625,00000000",
		"41d1dc42,c17255b9,c1086026 400035ef,bf940d52,bf26a1fb",
		"ca8af2a2,4a2a5a9b,ca990701 3b1c2076,bb3a2025,3b597168",
		"00000001,00000000,00000000 a78d9421,65344376,278d9420",
		"fail",
		"3f800000,00000000,80000000 00000000,3fa6e43f,80000000",
		"3f800000,00000000,80000000 00000000,40108848,80000000",
	)
	wantOfOrbits(t, "PlacesOf", func(o impl.Orbit) string { return vectorsTold(impl.PlacesOf(o, 0.6, 3)) },
		"3f800000,00000000,00000000/bf000001,3f5db3d7,00000000/befffffc,bf5db3d8,80000000",
		"3e45c567,c0041681,3fb2e2ac/3f4fbbca,bc36066b,c01755e0/bf809693,4004cc87,3f77922d",
		"80000000,3fc00000,00000000/bfdad3c6,c0709373,80000000/3fdad3c9,c0709372,80000000",
		"bf9851ec,b43372a0,80000000/3fd4b0b9,3f98b095,00000000/3fd4b0bb,bf98b092,00000000",
		"3f561618,be57647f,bf14d52a/bf031d16,3f901e2f,3f482875/bf9c121f,bf30bef5,3ed7fc43",
		"3f921507,00000000,bebddc23/c28dfdfa,00000000,418e2a28/c287c3bb,00000000,41dad472",
		"3b1e30d1,bb1ddbbd,3a4eae2b/bc5152a5,3c05d7d4,b866d31d/bbea412d,3c3febd6,bbd37460",
		"3bc35009,1aeb0000,00000000/c8359a8c,c18d203f,80000000/c8359a8c,418d2040,00000000",
		"fail", "fail", "fail", "fail",
		"00000001,00000000,00000000/80000001,00000001,00000000/80000001,80000001,80000000",
		"fail",
		"3f800000,00000000,80000000/bf000001,3f5db3d7,80000000/befffffc,bf5db3d8,00000000",
		"fail",
	)
}

func TestTablesOfTimes(t *testing.T) {
	wantOfOrbits(t, "RateOf", func(o impl.Orbit) string { return numberTold(impl.RateOf(o, 1.7)) },
		"3fa6e43f", "3ea8e1e6", "3e807924", "3f169696", "3f6130af", "3ba8e1e6", "44a2fae6", "33311607",
		"3f35b044", "3eec0535", "40fdeade", "33972f3b", "fail", "00000000", "3fa6e43f", "3fa6e43f",
	)
	wantOfOrbits(t, "PeriodOf", func(o impl.Orbit) string { return numberTold(impl.PeriodOf(o, 1.7)) },
		"409a351c", "419863be", "41c85245", "412ae714", "40e49213", "449863be", "3b9de88f", "4d115480",
		"fail", "fail", "fail", "fail", "00000000", "fail", "409a351c", "fail",
	)
	wantOfOrbits(t, "LaterOrbit, 3.3", func(o impl.Orbit) string { return orbitTold(impl.LaterOrbit(o, 1.7, 3.3)) },
		"3f800000,00000000,00000000,00000000,00000000,3f2f4e83",
		"40200000,00000000,3e4ccccd,3e99999a,3ecccccd,3f5f8caa",
		"40400000,3f000000,00000000,00000000,3e800000,3e8379bf",
		"3fd9999a,3e99999a,3f000000,3f19999a,3dcccccd,3e55f669",
		"3fa66666,3e4ccccd,3dcccccd,3e19999a,3f4ccccd,3f4fdf57",
		"42200000,3f7851ec,3e800000,3f000000,3f0ccccd,3cba03c6",
		"3c23d70a,3f266666,3ebd70a4,3f68f5c3,3d4ccccd,3e9565d8",
		"47c35000,3f7fffff,3f000000,3f7fffff,3f7fffff,3f7fffff",
		"bfc00000,3fe66666,3e99999a,3e4ccccd,3f19999a,3f45d32b",
		"c0000000,40400000,00000000,00000000,00000000,beea707f",
		"fail",
		"c788b800,41c80000,3df5c28f,3f28f5c3,3f7851ec,c1800000",
		"00000001,3ecccccd,007fffff,00000001,007fffff,00000000",
		"7f61b1e6,3f000000,3d4ccccd,3ecccccd,3e4ccccd,3ee66666",
		"3f800000,80000000,80000000,80000000,80000000,3f2f4e83",
		"bf800000,40000000,80000000,80000000,80000000,3f2f4e83",
	)
	wantOfOrbits(t, "LaterOrbit, -0.9", func(o impl.Orbit) string { return orbitTold(impl.LaterOrbit(o, 1.7, -0.9)) },
		"3f800000,00000000,00000000,00000000,00000000,3f503068",
		"40200000,00000000,3e4ccccd,3e99999a,3ecccccd,3f271acd",
		"40400000,3f000000,00000000,00000000,3e800000,3db663e9",
		"3fd9999a,3e99999a,3f000000,3f19999a,3dcccccd,3f50d46f",
		"3fa66666,3e4ccccd,3dcccccd,3e19999a,3f4ccccd,3e656023",
		"42200000,3f7851ec,3e800000,3f000000,3f0ccccd,3c9dcad7",
		"3c23d70a,3f266666,3ebd70a4,3f68f5c3,3d4ccccd,3f3d152b",
		"47c35000,3f7fffff,3f000000,3f7fffff,3f7fffff,3f7fffff",
		"bfc00000,3fe66666,3e99999a,3e4ccccd,3f19999a,3e98c005",
		"c0000000,40400000,00000000,00000000,00000000,bf441a8d",
		"be99999a,3f800001,3ee66666,3f400000,3ea8f5c3,416dd083",
		"c788b800,41c80000,3df5c28f,3f28f5c3,3f7851ec,c1800000",
		"00000001,3ecccccd,007fffff,00000001,007fffff,00000000",
		"7f61b1e6,3f000000,3d4ccccd,3ecccccd,3e4ccccd,3ee66666",
		"3f800000,80000000,80000000,80000000,80000000,3f503068",
		"bf800000,40000000,80000000,80000000,80000000,be3f3e61",
	)
	wantOfOrbits(t, "LaterOrbit, 100", func(o impl.Orbit) string { return orbitTold(impl.LaterOrbit(o, 1.7, 100)) },
		"3f800000,00000000,00000000,00000000,00000000,3f4052f9",
		"40200000,00000000,3e4ccccd,3e99999a,3ecccccd,3f731f9e",
		"40400000,3f000000,00000000,00000000,3e800000,3df2dba7",
		"3fd9999a,3e99999a,3f000000,3f19999a,3dcccccd,3e862c19",
		"3fa66666,3e4ccccd,3dcccccd,3e19999a,3f4ccccd,3eb339c8",
		"42200000,3f7851ec,3e800000,3f000000,3f0ccccd,3dd0f350",
		"3c23d70a,3f266666,3ebd70a4,3f68f5c3,3d4ccccd,3f444943",
		"47c35000,3f7fffff,3f000000,3f7fffff,3f7fffff,35202697",
		"bfc00000,3fe66666,3e99999a,3e4ccccd,3f19999a,413b2102",
		"c0000000,40400000,00000000,00000000,00000000,40d45fb0",
		"fail",
		"c788b800,41c80000,3df5c28f,3f28f5c3,3f7851ec,c17fffff",
		"00000001,3ecccccd,007fffff,00000001,007fffff,00000000",
		"7f61b1e6,3f000000,3d4ccccd,3ecccccd,3e4ccccd,3ee66666",
		"3f800000,80000000,80000000,80000000,80000000,3f4052f9",
		"fail",
	)
}

func TestTablesOfDistances(t *testing.T) {
	wantOfOrbits(t, "NearOf", func(o impl.Orbit) string { return numberTold(impl.NearOf(o)) },
		"3f800000", "40200000", "3fc00000", "3f9851ec", "3f851eb8", "3f999990", "3b656042", "3bc35000",
		"3f999999", "40800000", "3319999a", "49cd1400", "00000001", "7ee1b1e6", "3f800000", "3f800000",
	)
	wantOfOrbits(t, "FarOf", func(o impl.Orbit) string { return numberTold(impl.FarOf(o)) },
		"3f800000", "40200000", "40900000", "400d70a4", "3fc7ae14", "429d999a", "3c872b02", "48435000",
		"fail", "fail", "fail", "fail", "00000001", "fail", "3f800000", "fail",
	)
	wantOfOrbits(t, "BesideOf", func(o impl.Orbit) string { return numberTold(impl.BesideOf(o)) },
		"3f800000", "40200000", "40100000", "3fc60419", "3f9fbe76", "40174bbd", "3bbd3c36", "3c435000",
		"40570a3c", "41800000", "3399999b", "4c26a040", "00000001", "7f29456c", "3f800000", "40400000",
	)
	wantOfOrbits(t, "SpeedAt, 1.1", func(o impl.Orbit) string { return numberTold(impl.SpeedAt(o, 1.7, 1.1)) },
		"3f96f588", "3fc6bf36", "3fcb5d5b", "3fb91673", "3faaed73", "3fdf7bed", "fail", "3fe10934",
		"400389f9", "3ffe1a20", "403d6580", "3fe10996", "fail", "3fe1095c", "3f96f588", "400c158a",
	)
	wantOfOrbits(t, "SpeedAt, 2.9", func(o impl.Orbit) string { return numberTold(impl.SpeedAt(o, 1.7, 2.9)) },
		"fail", "3f33a40e", "3f473e82", "3ed498af", "fail", "3f880f88", "fail", "3f8a984c",
		"3fc25d2f", "3fb607e5", "40275ed7", "3f8a98ec", "fail", "3f8a988e", "fail", "3fd8efda",
	)
	wantOfOrbits(t, "EnergyOfOrbit", func(o impl.Orbit) string { return numberTold(impl.EnergyOfOrbit(o, 1.7)) },
		"bf59999a", "beae147b", "be911111", "bf000000", "bf276277", "bcae147b", "c2aa0001", "b70e9b39",
		"3f111111", "3ed9999a", "40355555", "374bb92d", "fail", "801eda2e", "bf59999a", "3f59999a",
	)
	wantOfOrbits(t, "TurningOfOrbit", func(o impl.Orbit) string { return numberTold(impl.TurningOfOrbit(o, 1.7)) },
		"3fa6e43f", "4003f07b", "3ffa565e", "3fcf93c2", "3fba70ee", "40004ce6", "3dcaec30", "3e11c618",
		"4018f56b", "40a6e43f", "39b6d211", "4606a4c5", "1a5850f3", "5f87b54a", "3fa6e43f", "40108848",
	)
}

func TestTablesOfTwoOrbits(t *testing.T) {
	two := impl.Orbit{Long: 2, Round: 0.6, Tilt: 0.3, Node: 0.7, Peri: 0.2, Phase: 0.1}
	wantOfOrbits(t, "TiltBetween", func(o impl.Orbit) string { return numberTold(impl.TiltBetween(o, two)) },
		"3e99999a", "3ecf629b", "3e99999a", "3e4ccccc", "3ec91ebb", "3e4f629b", "3e3fc6bf", "3e4ccccc",
		"3ecccccc", "3e99999a", "3e1c7ab3", "3e3bfc28", "3e99999a", "3ea02dca", "3e99999a", "3e99999a",
	)
	wantOfOrbits(t, "TiltBetween, the other way", func(o impl.Orbit) string { return numberTold(impl.TiltBetween(two, o)) },
		"3e99999a", "3ecf629b", "3e99999a", "3e4ccccc", "3ec91ebb", "3e4f629b", "3e3fc6bf", "3e4ccccc",
		"3ecccccc", "3e99999a", "3e1c7ab3", "3e3bfc28", "3e99999a", "3ea02dca", "3e99999a", "3e99999a",
	)
	wantOfOrbits(t, "NearestOrbits", func(o impl.Orbit) string { return nearestTold(impl.NearestOrbits(o, two, 1.7, 7)) },
		"4 0 3f7a9fc1", "2 5 3f03d63c", "0 1 3f634c50", "2 1 3f4f2770", "1 1 3f64a414", "0 1 3fe12152", "1 0 3f4b20fb", "0 0 3f4d6088",
		"fail", "fail", "fail", "fail", "0 0 3f4ccccd", "fail", "4 0 3f7a9fc1", "fail",
	)
	wantOfOrbits(t, "NearestOrbits, the other way", func(o impl.Orbit) string { return nearestTold(impl.NearestOrbits(two, o, 1.7, 8)) },
		"1 2 3f6ce217", "6 2 3f46c674", "1 0 3f30b762", "1 2 3eedde64", "7 7 3f4520f7", "1 0 3fdb5241", "0 1 3f4b1e57", "0 0 3f4d6088",
		"fail", "fail", "fail", "fail", "0 0 3f4ccccd", "fail", "1 2 3f6ce217", "fail",
	)
}

func TestTablesOfOrbitOf(t *testing.T) {
	less := number(minusZero)
	want(t, "circle", orbitTold(impl.OrbitOf(vectorOf(1, 0, 0), vectorOf(0, 1, 0), 1)),
		"3f800000,00000000,00000000,00000000,00000000,00000000")
	want(t, "circle the other way", orbitTold(impl.OrbitOf(vectorOf(0, -2, 0), vectorOf(-1, 0, 0), 2)),
		"40000000,00000000,3f000000,00000000,00000000,3e800000")
	want(t, "circle backward", orbitTold(impl.OrbitOf(vectorOf(2, 0, 0), vectorOf(0, -1, 0), 2)),
		"40000000,00000000,3f000000,00000000,00000000,00000000")
	want(t, "circle over the poles", orbitTold(impl.OrbitOf(vectorOf(0, 0, 1), vectorOf(1, 0, 0), 1)),
		"3f800000,00000000,3e800000,3f000000,00000000,3e800000")
	want(t, "circle that is tilted", orbitTold(impl.OrbitOf(vectorOf(1, 0, 0), vectorOf(0, 0.6, 0.8), 1)),
		"3f800000,334ccccd,3e172029,00000000,00000000,00000000")
	want(t, "in the plane", orbitTold(impl.OrbitOf(vectorOf(1, 2, 0), vectorOf(-0.7, 0.4, 0), 3)),
		"3fbcdb76,3f048853,00000000,00000000,3f2f38d5,3ef4a284")
	want(t, "in the plane, of -0", orbitTold(impl.OrbitOf(vectorOf(1, 2, less), vectorOf(-0.7, 0.4, less), 3)),
		"3fbcdb76,3f048853,00000000,00000000,3f2f38d5,3ef4a284")
	want(t, "in the plane, backward", orbitTold(impl.OrbitOf(vectorOf(1, 2, 0), vectorOf(0.7, -0.4, 0), 3)),
		"3fbcdb76,3f048853,3f000000,00000000,3ea18e56,3f05aebe")
	want(t, "at its least distance", orbitTold(impl.OrbitOf(vectorOf(1, 0, 0), vectorOf(0, 1.2, 0), 1)),
		"3fe4924c,3ee147b2,00000000,00000000,00000000,00000000")
	want(t, "at its greatest distance", orbitTold(impl.OrbitOf(vectorOf(1, 0, 0), vectorOf(0, 0.8, 0), 1)),
		"3f3c3c3c,3eb851eb,00000000,00000000,3f000000,3f000000")
	want(t, "ellipse", orbitTold(impl.OrbitOf(vectorOf(0.3, -1.1, 0.6), vectorOf(0.5, 0.2, -0.4), 1.2)),
		"3f59724f,3f19e6a8,3de88ef8,3ecaf20c,3f54a48f,3f225a0a")
	want(t, "ellipse, up", orbitTold(impl.OrbitOf(vectorOf(-0.9, 0.4, 0.8), vectorOf(0.1, -0.6, 0.5), 1.5)),
		"3f5c2445,3ef58329,3e2a5985,3eb5f315,3f2463e4,3ef07983")
	want(t, "ellipse, far away", orbitTold(impl.OrbitOf(vectorOf(3e+07, -5e+06, 800000), vectorOf(-120, 2500, 340), 2.5e+14)),
		"4bbdb4d6,3e99d7e6,3cbe5c77,3f71f19c,3ee22bbf,3f25fd8b")
	want(t, "ellipse, thin", orbitTold(impl.OrbitOf(vectorOf(2, 0.1, 0.3), vectorOf(-0.2, 0.01, 0.02), 1)),
		"3f872184,3f7e96ed,3e41fd6b,3f7f97b3,3f05ac44,3f1fab44")
	want(t, "branch", orbitTold(impl.OrbitOf(vectorOf(1, 0.5, -0.3), vectorOf(0.4, 1.9, 0.8), 1)),
		"bebee233,406b8c93,3dd93672,3e044f7d,3f55fc54,3e5abbcc")
	want(t, "branch that comes", orbitTold(impl.OrbitOf(vectorOf(4, -3, 2), vectorOf(-1.1, 0.6, -0.3), 1.3)),
		"bf8d5a71,3fc31c0d,3eb9f946,3f741fff,3ed25ef2,bf14b6e2")
	want(t, "branch in the plane", orbitTold(impl.OrbitOf(vectorOf(0.5, -0.5, 0), vectorOf(3, -1, 0), 2)),
		"beebc618,3fb8dc5f,00000000,00000000,3f17adea,3e1625de")
	want(t, "branch in the plane, backward", orbitTold(impl.OrbitOf(vectorOf(0.5, 0.5, 0), vectorOf(3, -1, 0), 2)),
		"beebc618,4013f005,3f000000,00000000,3f452d32,3dc5472b")
	want(t, "branch that is nearly straight", orbitTold(impl.OrbitOf(vectorOf(1, 2, 3), vectorOf(3, -2, 1), 0.7)),
		"bd526c7f,429226ea,3eb2275f,3ec00000,3e49556f,3fd3ec8f")
	want(t, "branch, backward", orbitTold(impl.OrbitOf(vectorOf(-2, -1, 0.4), vectorOf(-0.3, 1.7, 0.2), 0.8)),
		"beb0e25a,40ea51ac,3eec11ac,3f3372e5,3e3509c7,be88c150")
}

func TestTablesOfSwings(t *testing.T) {
	wantHalves(t, "SwingOf", impl.SwingOf, [][3]uint32{
		{0x00000000, 0x00000000, 0x00000000}, {0x00000000, 0x3e800000, 0x3e800000}, {0x80000000, 0x80000000, 0x00000000}, {0x3f000000, 0x3e800000, 0x3ea4af2c}, {0x3f000000, 0x3f000000, 0x3f000000}, {0x3f000000, 0x3f400000, 0x3f2da86a}, {0x3e99999a, 0x3dcccccd, 0x3e0b47c8}, {0x3f666666, 0x3c23d70a, 0x3d99e732},
		{0x3f666666, 0x3f7d70a4, 0x3f6cc31a}, {0x3f333333, 0x3f800000, 0x00000000}, {0x3f333333, 0xbe99999a, 0x3f1f5ad4}, {0x3f333333, 0x402ccccd, 0x3f1f5ad4}, {0x3f333333, 0xc0a80000, 0x3f2834c6}, {0x3e4ccccd, 0x501502f9, 0x00000000}, {0x3ecccccd, 0x8da24260, 0x3f800000}, {0x3f7d70a4, 0x3b03126f, 0x3d75e97f},
		{0x3f7fffff, 0x3f7fffff, 0x3f7f777a}, {0x3f7fffff, 0x00000001, 0x00000000}, {0x00000001, 0x3f19999a, 0x3f19999a}, {0x007fffff, 0x007fffff, 0x00000000}, {0x3f000000, 0x7f7fffff, 0x00000000}, {0x3f000000, 0xff7fffff, 0x00000000},
		{0x00000000, 0x283424dc, 0x28300000}, {0x3f000000, 0x27582c3b, 0x27c00000}, {0x3f666666, 0x25669595, 0x27000000}, {0x00000000, 0x26800000, 0x26800000}, {0x00000000, 0x268ccccd, 0x26800000}, {0x00000000, 0x26666666, 0x00000000},
	})
	wantHalves(t, "PhaseOfSwing", impl.PhaseOfSwing, [][3]uint32{
		{0x00000000, 0x00000000, 0x00000000}, {0x00000000, 0x3e800000, 0x3e800000}, {0x80000000, 0x80000000, 0x80000000}, {0x3f000000, 0x3e800000, 0x3e2e833e}, {0x3f000000, 0x3f000000, 0x3f000000}, {0x3f000000, 0x3f400000, 0x3f545f30}, {0x3e99999a, 0x3dcccccd, 0x3d9352d3}, {0x3f666666, 0x3c23d70a, 0x3a83d91a},
		{0x3f666666, 0x3f7d70a4, 0x3f7fbe13}, {0x3f333333, 0x3f800000, 0x3f800000}, {0x3f333333, 0xbe99999a, 0xbe46b38b}, {0x3f333333, 0x402ccccd, 0x403394c8}, {0x3f333333, 0xc0a80000, 0xc0a46f58}, {0x3e4ccccd, 0x501502f9, 0x501502f9}, {0x3ecccccd, 0x8da24260, 0x8da24260}, {0x3f7d70a4, 0x3b03126f, 0x37a8358b},
		{0x3f7fffff, 0x3f7fffff, 0x3f800000}, {0x3f7fffff, 0x00000001, 0x00000000}, {0x00000001, 0x3f19999a, 0x3f19999a}, {0x007fffff, 0x007fffff, 0x007fffff}, {0x3f000000, 0x7f7fffff, 0x7f7fffff}, {0x3f000000, 0xff7fffff, 0xff7fffff},
	})
}

func TestTablesOfLeans(t *testing.T) {
	wantHalves(t, "LeanOf", impl.LeanOf, [][3]uint32{
		{0x40000000, 0x00000000, 0x287ff000}, {0x40000000, 0x80000000, 0x287ff000}, {0x40000000, 0x3f000000, 0x3fcc8170}, {0x40000000, 0xbf000000, 0xbfcc8170}, {0x3fa66666, 0x3d8f5c29, 0x3f67fad5}, {0x3fa66666, 0xc0800000, 0xc072f3c0}, {0x40a00000, 0x41800000, 0x406ecbda}, {0x40a00000, 0xc1800000, 0xc06ecbda},
		{0x3f800001, 0x41800000, 0x40ab608f}, {0x3f800001, 0xc1800000, 0xc0ab608f}, {0x3f800001, 0x00000001, 0x29bffe00}, {0x3f800001, 0x3a83126f, 0x3eab5b6a}, {0x501502f9, 0x40400000, 0x31018880}, {0x7f7fffff, 0xc1400000, 0xa8802000}, {0x3f800347, 0x807fffff, 0xa9c00800}, {0x447a0000, 0x41280000, 0x3d872691},
	})
	wantHalves(t, "PhaseOfLean", impl.PhaseOfLean, [][3]uint32{
		{0x40000000, 0x00000000, 0x00000000}, {0x40000000, 0x80000000, 0x00000000}, {0x40000000, 0x3f800000, 0x3e5c14d5}, {0x40000000, 0xbf800000, 0xbe5c14d5}, {0x3fa66666, 0x3e4ccccd, 0x3c20fc0a}, {0x3fa66666, 0xc0f00000, 0xc339d97c}, {0x40a00000, 0x41200000, 0x4608e9d8}, {0x40a00000, 0xc1200000, 0xc608e9d8},
		{0x3f800001, 0x41200000, 0x44dae703}, {0x3f800001, 0xbc23d70a, 0xb2e57c69}, {0x3f800001, 0x00000001, 0x80000000}, {0x501502f9, 0x40400000, 0x506d9551}, {0x7149f2ca, 0xc1180000, 0xf651aa84}, {0x3f800347, 0x807fffff, 0x00145f30},
	})
}
