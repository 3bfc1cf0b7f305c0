package tests

import (
	"fmt"
	"strings"
	"testing"

	"loop.example/g01284/impl"
)

func bodyOf(at, speed impl.Vector, mass float32) impl.Body {
	return impl.Body{At: at, Speed: speed, Mass: mass}
}

// systems has the bodies of the tables below. What the tables hold comes from
// another program, which follows the document in Python.
func systems() [][]impl.Body {
	return [][]impl.Body{
		{
			bodyOf(vectorOf(0.1, 0.2, -0.3), vectorOf(0.4, -0.5, 0.6), 1.5),
			bodyOf(vectorOf(-1.1, 0.7, 0.9), vectorOf(-0.2, 0.3, -0.1), 0.25),
		},
		{
			bodyOf(vectorOf(1.3, -0.4, 0.2), vectorOf(0.1, 0.9, -0.2), 1),
			bodyOf(vectorOf(-0.7, 0.6, -0.5), vectorOf(-0.3, -0.6, 0.4), 0.5),
			bodyOf(vectorOf(0.3, 1.9, 0.8), vectorOf(0.7, -0.1, 0.3), 2.1),
		},
		{
			bodyOf(vectorOf(0.5, 0.5, 0.1), vectorOf(0.2, 0, -0.1), 0.7),
			bodyOf(vectorOf(0.5, 0.5, 0.1), vectorOf(-0.3, 0.3, 0.2), 0.9),
			bodyOf(vectorOf(-1.3, 0.4, 0.6), vectorOf(0.1, -0.2, 0.5), 0),
			bodyOf(vectorOf(1.7, -0.6, -0.9), vectorOf(0, 0.7, -0.4), 0.3),
		},
		{
			bodyOf(vectorOf(1e+07, -2e+06, 3.3), vectorOf(0.001, 2e+03, -0.7), 3e+05),
			bodyOf(vectorOf(-1.1e+07, 3e+06, 7e-05), vectorOf(0.03, -1.9e+03, 0.1), 7e+04),
			bodyOf(vectorOf(12.5, 0.1, -4e+05), vectorOf(1, 1, 1), 1e-30),
		},
	}
}

func numberText(x float32) string { return fmt.Sprintf("%08x", bitsOf(x)) }

func vectorText(v impl.Vector) string {
	return numberText(v.X) + "," + numberText(v.Y) + "," + numberText(v.Z)
}

func bodiesText(list []impl.Body) string {
	var parts []string
	for _, b := range list {
		parts = append(parts, vectorText(b.At)+":"+vectorText(b.Speed)+":"+numberText(b.Mass))
	}
	return strings.Join(parts, "/")
}

func toldOr(text string, ok bool) string {
	if !ok {
		return "fail"
	}
	return text
}

func numberTold(x float32, ok bool) string { return toldOr(numberText(x), ok) }

func vectorTold(v impl.Vector, ok bool) string { return toldOr(vectorText(v), ok) }

func vectorsTold(list []impl.Vector, ok bool) string {
	var parts []string
	for _, v := range list {
		parts = append(parts, vectorText(v))
	}
	return toldOr(strings.Join(parts, "/"), ok)
}

func bodiesTold(list []impl.Body, ok bool) string { return toldOr(bodiesText(list), ok) }

func halvedTold(list []impl.Body, parts int64, ok bool) string {
	return toldOr(fmt.Sprintf("%s %d", bodiesText(list), parts), ok)
}

func twoVectorsTold(at, speed impl.Vector, ok bool) string {
	return toldOr(vectorText(at)+" "+vectorText(speed), ok)
}

func nearestTold(i, k int64, distance float32, ok bool) string {
	return toldOr(fmt.Sprintf("%d %d %s", i, k, numberText(distance)), ok)
}

func passTold(step int64, distance float32, ok bool) string {
	return toldOr(fmt.Sprintf("%d %s", step, numberText(distance)), ok)
}

func boundTold(bound, ok bool) string { return toldOr(fmt.Sprint(bound), ok) }

// wantTable tells the same of each of the systems.
func wantTable(t *testing.T, what string, tell func([]impl.Body) string, rows ...string) {
	t.Helper()
	for i, list := range systems() {
		want(t, fmt.Sprintf("%s of system %d", what, i), tell(list), rows[i])
	}
}

func TestTablesOfPulls(t *testing.T) {
	wantTable(t, "PullsOf", func(list []impl.Body) string { return vectorsTold(impl.PullsOf(list, 0.25)) },
		"bd576b5e,3cb38423,3d576b5e/3ea19086,be06a31a,bea19086",
		"be49ea1e,3ea1c366,3d3b302f/3ec117d0,3e5c49c2,3eb0ab53/3b866c40,be4e8284,bdd4d336",
		"3d4e23e7,bd3cf63e,bd2bc895/3d4e23e7,bd3cf63e,bd2bc895/3ee5f625,3c8a0b99,be047f2b/be896d44,3e7bf2fc,3e650b70",
		"af20abdb,2e190532,a3d3cb44/302c25d8,af23f348,24e2ec11/311e4ca7,afe88c2d,2f10d995",
	)
	wantTable(t, "PullsOf without a core", func(list []impl.Body) string { return vectorsTold(impl.PullsOf(list, 0)) },
		"bd5de75d,3cb8eb78,3d5de75d/3ea66d86,be0ab09a,bea66d86",
		"be4d0088,3ea41b94,3d3d8159/3ec4e65b,3e615c5e,3eb45846/3b76ed10,be51f34e,bdd8e096",
		"3d537522,bd41d609,bd3036f1/3d537522,bd41d609,bd3036f1/3eebf182,3c8eda9f,be07db39/be8cf8c0,3e81395b,3e6af3eb",
		"af20abdb,2e190532,a3d3cb44/302c25d8,af23f348,24e2ec11/311e4ca7,afe88c2d,2f10d995",
	)
	wantTable(t, "PullAt", func(list []impl.Body) string { return vectorTold(impl.PullAt(list, vectorOf(0.1, -0.2, 0.3), 0)) },
		"bd91b5dc,3fd3a47d,c0175522",
		"3f0cf788,3ef24640,bdd17ac3",
		"3f962b3c,3ff85029,bf19ca1d",
		"311eae4b,afe91e76,267080f4",
	)
	wantTable(t, "PullAt with a core", func(list []impl.Body) string { return vectorTold(impl.PullAt(list, vectorOf(0.1, -0.2, 0.3), 0.7)) },
		"bd6121fe,3f21e0a9,bf5bf38a",
		"3eb7f85b,3ed0f3eb,bd5d3054",
		"3f0c12f8,3f5c9ece,be923392",
		"311eae4b,afe91e76,267080f4",
	)
}

func TestTablesOfSteps(t *testing.T) {
	wantTable(t, "StepBodies", func(list []impl.Body) string { return bodiesTold(impl.StepBodies(list, 0.1, 0.3)) },
		"3e5ecba6,3d50f0d8,bdf0ca7e:3ec464f8,befbfb3d,3f1d3153:3fc00000/bf929ddb,3f48afeb,3f5afe45:bdcfdd9c,3e817d06,be3c9fb4:3e800000",
		"3fa916f4,bdecc4d0,3e117cdc:3d0a4ef5,3f80aea1,be3495c4:3f800000/bf45d2db,3edc1792,beba78a9:be38d5bb,bf0987d0,3efbfa3d:3f000000/3f029aa2,3fee2ea2,3f629faf:3f33fd92,be291098,3e889a10:40066666",
		"3f0ff3c9,3efeea05,3d8b6952:bfd576cd,3f8eec81,3f820117:3f333333/3ed31ac6,3f167f40,3e21dd9f:3f971ced,bf1789bf,bf314544:3f666666/bf9feaa6,3eae7ac5,3f3e7a50:3e7337fb,be429229,3ee8cada:00000000/3fd80544,bec1e384,bf813e6a:bdab90e2,3f453c78,bea6d0f8:3e99999a",
		"4b189680,c9f41140,4045c28f:3a83126f,44fa0000,bf333333:48927c00/cb27d8c0,4a371218,3cf6555d:3cf5c28f,c4ed8000,3dcccccd:4788b800/414ccccd,3ecccccd,c8c34ff6:3f800000,3f800000,3f800000:0da24260",
	)
	wantTable(t, "StepBodies back", func(list []impl.Body) string { return bodiesTold(impl.StepBodies(list, 0.1, -0.3)) },
		"bcb7b750,3eb3b7b5,bef4848c:3ed49bfe,bf015340,3f14fb6c:3fc00000/bf8341b2,3f1a9b70,3f6a5a6e:be95418e,3ea980a2,3c06ddd8:3e800000",
		"3fa168e0,bf27d60b,3e862f12:3e1e25c6,3f4f8934,be55be07:3f800000/bf17be60,3f4a34c0,bf1aacf9:bed11d45,bf2c9b65,3e8cf201:3f000000/3db8ac1c,3ff5dcb7,3f348b34:3f332c18,bd22fd7c,3eaaeec0:40066666",
		"3ee276ee,3efeea05,3e03254d:bfd972b2,3f9287a8,3f855d99:3f333333/3f17a1de,3ed0d58a,3d1bf15d:3f93274f,bf103125,bf2ab76f:3f666666/bfa798bb,3eebeb69,3ee35b06:bd20bd58,be4dca63,3f08ce18:00000000/3fd80544,bf4c76e1,bf450c30:3da738f8,3f1e5ea1,beed835e:3e99999a",
		"4b189680,c9f436c0,4060a3d7:3a83126f,44fa0000,bf333333:48927c00/cb27d8c0,4a3723e8,bcf52fc3:3cf5c28f,c4ed8000,3dcccccd:4788b800/41433333,be4cccce,c8c3500a:3f800000,3f800000,3f800000:0da24260",
	)
	wantTable(t, "RunBodies", func(list []impl.Body) string { return bodiesTold(impl.RunBodies(list, 0.1, 0.07, 7)) },
		"3e942c4b,bd2b4408,b9e37980:3ebefc03,bef8e44f,3f1ee912:3fc00000/bf944689,3f53efc8,3f514e73:bd1c0d0e,3e5de70b,be65d99b:3e800000",
		"3fa9428e,3daa968a,3de4581b:bc72ec80,3f8a977c,be1964f4:3f800000/bf4c8be8,3ea96263,be890791:bdcdc9b1,bf000434,3f098c45:3f000000/3f24eeb4,3fe997e5,3f6f0ed2:3f350970,be57e074,3e793f38:40066666",
		"3f0aa48f,3f08392a,3da95826:bf0dffc0,3ee5cc24,3eb11b81:3f333333/3ed0eea1,3f1cd704,3e275744:3eaa8a6f,bdaf8560,be41a556:3f666666/bf991600,3e9cbba5,3f53a5b6:3ea61e87,be372791,3ed70858:00000000/3fd54e3f,be6a69ee,bf887911:be0da722,3f4f52c2,be8bd951:3e99999a",
		"4b189680,c9f40560,403d3f7c:3a83126f,44fa0000,bf333333:48927c00/cb27d8c0,4a370c74,3d48fd9f:3cf5c28f,c4ed8000,3dcccccd:4788b800/414fd708,3f170a3d,c8c34ff2:3f800000,3f800000,3f800000:0da24260",
	)
	wantTable(t, "RunBodies, MaxRun", func(list []impl.Body) string { return bodiesTold(impl.RunBodies(list, 0.1, 0.07, impl.MaxRun)) },
		"3fc0aeb6,bfe007f4,401e1e45:3e8a0e0b,bec6922e,3f17f810:3fc00000/3ea5e493,3e9c64d8,bd32831e:3f150919,bebef940,bd7d0483:3e800000",
		"403954fd,3fe7fdc8,405dbb9f:3f12f302,be8f7b13,3f16d311:3f800000/3fd1b6ca,3ee33369,400a110e:3f908f17,3f1652bb,3ecea7e6:3f000000/4000cf7d,3fdb9ad1,bd312582:3e092a65,3e37a79f,bd9cfbfa:40066666",
		"c056446a,405c6871,401bd8a7:bf98a1e0,3f6282e6,3f363234:3f333333/4061b669,bec617ef,c01188cb:3f792815,be981f21,bf4be0f7:3f666666/4013ebe8,3f958759,3cc4436c:3f7bc549,3ed9904c,bf17d93f:00000000/beafac4d,401704b6,3f1fc01c:bf121e6e,3eda8304,3f31fa82:3e99999a",
		"4b189680,c9f30c00,3e27ef3e:3a83126f,44fa0000,bf333333:48927c00/cb27d8c0,4a369600,3ee5696d:3cf5c28f,c4ed8000,3dcccccd:4788b800/4187d700,40928f5d,c8c34f80:3f800000,3f800000,3f800000:0da24260",
	)
	wantTable(t, "HalvedBodies", func(list []impl.Body) string { return halvedTold(impl.HalvedBodies(list, 0.1, 0.3, 0.001)) },
		"3e5ec1e7,3d51697b,bdf13258:3ec45899,befbf1e4,3f1d328d:3fc00000/bf92968c,3f4882b0,3f5b4c28:bdceb4b3,3e8144f0,be3cbd39:3e800000 2",
		"3fa903fb,bdeb219e,3e124667:3d0a9f07,3f809d73,be359ff1:3f800000/bf45b4fe,3edbe2c7,bebb2719:be389a65,bf09bca8,3efbaa95:3f000000/3f02a598,3fee254c,3f629c75:3f33f7a9,be289cd5,3e88ec67:40066666 2",
		"fail",
		"4b189680,c9f41140,4045c28f:3a83126f,44fa0000,bf333333:48927c00/cb27d8c0,4a371218,3cf6555d:3cf5c28f,c4ed8000,3dcccccd:4788b800/414ccccc,3ecccccd,c8c34ff6:3f800000,3f800000,3f800000:0da24260 1",
	)
	wantTable(t, "HalvedBodies in more parts", func(list []impl.Body) string { return halvedTold(impl.HalvedBodies(list, 0.4, 1.1, 0.0008)) },
		"3f026781,beaa9301,3ec30981:3eb12286,beef41f2,3f2144e0:3fc00000/bf9173f3,3f6dcd7f,3f2a16a2:3dfe5d0d,3dd49528,be8f3aa8:3e800000 8",
		"3fa213a1,3f544018,3d9c0fdd:be36c25b,3fb38cda,3dd12f15:3f800000/bf4aa545,3d78734c,3db15d7e:3e0e3f77,bebe7b1f,3f2008e8:3f000000/3f8a751d,3fd2de77,3f864eed:3f3a650c,bec98fe6,3dd1f5e5:40066666 16",
		"3ec68ef4,3f32061a,3e36e021:3dbb8d3e,3d81870f,bd6c2126:3f333333/3ef70f30,3f2376ce,3df89f5f:bdeb3829,3e3fa60c,3d82db91:3f666666/bf6e2b21,3e588cb4,3f8601d0:3f126ca2,bdf7cb44,3e90fb5b:00000000/3fc4ccbe,3e93b0e6,bf979503:be9adb79,3f6415ac,bdb95b00:3e99999a 16",
		"4b189680,c9f3df40,4021eb84:3a83126f,44fa0000,bf333333:48927c00/cb27d8c0,4a36fa58,3de16c63:3cf5c28f,c4ed8000,3dcccccd:4788b800/41599998,3f999999,c8c34fdc:3f800000,3f800000,3f800000:0da24260 2",
	)
	wantTable(t, "FourthBodies", func(list []impl.Body) string { return bodiesTold(impl.FourthBodies(list, 0.1, 0.3)) },
		"3e5ebfb6,3d5174c4,bdf136fa:3ec456e4,befbf112,3f1d3346:3fc00000/bf9294e6,3f487e74,3f5b4fa0:bdce8bc2,3e814007,be3ccea4:3e800000",
		"3fa9034f,bdeb0654,3e1262c3:3d0a9218,3f809cbc,be35b773:3f800000/bf45b236,3edbdf9e,bebb3a60:be388f24,bf09be9c,3efba3b5:3f000000/3f02a592,3fee24ad,3f629b60:3f33f760,be28983f,3e88f3a4:40066666",
		"3ef33836,3f0cd984,3df6364d:3fba4e45,bf30560d,bf4ed46f:3f333333/3ef5d69b,3f0c292e,3df07d3e:bf9fde54,3f500fb6,3f39f416:3f666666/bf9ff89e,3eae915a,3f3e5123:3e71b111,be43ddfe,3ee8cd70:00000000/3fd80959,bec25ed4,bf813603:bda931d8,3f44ddea,bea794e5:3e99999a",
		"4b189680,c9f41140,4045c28e:3a83126f,44fa0000,bf333333:48927c00/cb27d8c0,4a371218,3cf6555e:3cf5c28f,c4ed8000,3dcccccd:4788b800/414ccccd,3eccccce,c8c34ff6:3f800000,3f800000,3f800000:0da24260",
	)
}

func TestTablesOfMoves(t *testing.T) {
	wantTable(t, "BackBodies", func(list []impl.Body) string { return bodiesTold(impl.BackBodies(list)) },
		"3dcccccd,3e4ccccd,be99999a:becccccd,3f000000,bf19999a:3fc00000/bf8ccccd,3f333333,3f666666:3e4ccccd,be99999a,3dcccccd:3e800000",
		"3fa66666,becccccd,3e4ccccd:bdcccccd,bf666666,3e4ccccd:3f800000/bf333333,3f19999a,bf000000:3e99999a,3f19999a,becccccd:3f000000/3e99999a,3ff33333,3f4ccccd:bf333333,3dcccccd,be99999a:40066666",
		"3f000000,3f000000,3dcccccd:be4ccccd,80000000,3dcccccd:3f333333/3f000000,3f000000,3dcccccd:3e99999a,be99999a,be4ccccd:3f666666/bfa66666,3ecccccd,3f19999a:bdcccccd,3e4ccccd,bf000000:00000000/3fd9999a,bf19999a,bf666666:80000000,bf333333,3ecccccd:3e99999a",
		"4b189680,c9f42400,40533333:ba83126f,c4fa0000,3f333333:48927c00/cb27d8c0,4a371b00,3892ccf7:bcf5c28f,44ed8000,bdcccccd:4788b800/41480000,3dcccccd,c8c35000:bf800000,bf800000,bf800000:0da24260",
	)
	wantTable(t, "MoveBodies", func(list []impl.Body) string {
		return bodiesTold(impl.MoveBodies(list, vectorOf(0.1, -0.2, 0.3), vectorOf(-0.7, 0.8, 0.9)))
	},
		"3e4ccccd,00000000,00000000:be999999,3e99999a,3fc00000:3fc00000/bf800000,3f000000,3f99999a:bf666666,3f8ccccd,3f4ccccc:3e800000",
		"3fb33333,bf19999a,3f000000:bf199999,3fd9999a,3f333333:3f800000/bf199999,3eccccce,be4ccccc:bf800000,3e4ccccc,3fa66666:3f000000/3ecccccd,3fd99999,3f8ccccd:00000000,3f333333,3f99999a:40066666",
		"3f19999a,3e99999a,3ecccccd:bf000000,3f4ccccd,3f4ccccc:3f333333/3f19999a,3e99999a,3ecccccd:bf800000,3f8ccccd,3f8ccccd:3f666666/bf999999,3e4ccccd,3f666667:bf199999,3f19999a,3fb33333:00000000/3fe66667,bf4ccccd,bf199999:bf333333,3fc00000,3effffff:3e99999a",
		"4b189680,c9f42402,40666666:bf32f1aa,44fa199a,3e4ccccc:48927c00/cb27d8c0,4a371aff,3e99a2c7:bf2b851f,c4ed6666,3f800000:4788b800/4149999a,bdcccccd,c8c34ff6:3e99999a,3fe66666,3ff33333:0da24260",
	)
	wantTable(t, "TurnBodies", func(list []impl.Body) string { return bodiesTold(impl.TurnBodies(list, 0.15)) },
		"bdd2feb6,3e4b38c6,be99999a:3f23be4e,3cf36b30,3f19999a:3fc00000/bf9b3f82,bef4f9e6,3f666666:beb87448,3c6e1850,bdcccccd:3e800000",
		"3f8b3aa9,3f510d38,3e4ccccd:bf2b59a7,3f1c22f5,be4ccccd:3f800000/bf65989c,be5ac4a4,bf000000:3e9e3f08,bf186a94,3ecccccd:3f000000/bfae2e96,3fae0400,3f4ccccd:3efc157b,3f01edb5,3e99999a:40066666",
		"bde28a94,3f32ca6a,3dcccccd:3df0c1c0,3e25afcb,bdcccccd:3f333333/bde28a94,3f32ca6a,3dcccccd:bed68c80,bd87ecc0,3e4ccccd:3f666666/bf8b3aa9,bf510d38,3f19999a:3e61e03b,bd1623ea,3f000000:00000000/3fbe08da,3f82e673,bf666666:bf10f9d1,3ed2a988,becccccd:3e99999a",
		"4ae4c19d,4ad3044f,40533333:c4ca4112,4492f248,bf333333:48927c00/cb07b110,cad9c4ae,3892ccf7:44c024cc,c48b9891,3dcccccd:4788b800/40e88677,4122be6e,c8c35000:be628a94,3fb2ca6a,3f800000:0da24260",
	)
	wantTable(t, "TurnBodies the other way", func(list []impl.Body) string { return bodiesTold(impl.TurnBodies(list, -7.6)) },
		"be4b38c1,bdd2fec4,be99999a:bcf36bf0,3f23be4e,3f19999a:3fc00000/3ef4f9fd,bf9b3f80,3f666666:bc6e1780,beb87448,bdcccccd:3e800000",
		"bf510d43,3f8b3aa4,3e4ccccd:bf1c22ef,bf2b59ae,be4ccccd:3f800000/3e5ac4c6,bf65989a,bf000000:3f186a91,3e9e3f14,3ecccccd:3f000000/bfae03f9,bfae2e9d,3f4ccccd:bf01edba,3efc1571,3e99999a:40066666",
		"bf32ca6a,bde28acc,3dcccccd:be25afcf,3df0c1b3,bdcccccd:3f333333/bf32ca6a,bde28acc,3dcccccd:3d87ece0,bed68c7f,3e4ccccd:3f666666/3f510d43,bf8b3aa4,3f19999a:3d1623c8,3e61e03c,3f000000:00000000/bf82e67a,3fbe08d5,bf666666:bed2a97d,bf10f9d5,becccccd:3e99999a",
		"cad30458,4ae4c194,40533333:c492f241,c4ca4117,bf333333:48927c00/4ad9c4ba,cb07b10c,3892ccf7:448b9889,44c024d1,3dcccccd:4788b800/c122be72,40e8866a,c8c35000:bfb2ca6a,be628acc,3f800000:0da24260",
	)
	wantTable(t, "MirrorBodies", func(list []impl.Body) string { return bodiesTold(impl.MirrorBodies(list)) },
		"3dcccccd,3e4ccccd,3e99999a:3ecccccd,bf000000,bf19999a:3fc00000/bf8ccccd,3f333333,bf666666:be4ccccd,3e99999a,3dcccccd:3e800000",
		"3fa66666,becccccd,be4ccccd:3dcccccd,3f666666,3e4ccccd:3f800000/bf333333,3f19999a,3f000000:be99999a,bf19999a,becccccd:3f000000/3e99999a,3ff33333,bf4ccccd:3f333333,bdcccccd,be99999a:40066666",
		"3f000000,3f000000,bdcccccd:3e4ccccd,00000000,3dcccccd:3f333333/3f000000,3f000000,bdcccccd:be99999a,3e99999a,be4ccccd:3f666666/bfa66666,3ecccccd,bf19999a:3dcccccd,be4ccccd,bf000000:00000000/3fd9999a,bf19999a,3f666666:00000000,3f333333,3ecccccd:3e99999a",
		"4b189680,c9f42400,c0533333:3a83126f,44fa0000,3f333333:48927c00/cb27d8c0,4a371b00,b892ccf7:3cf5c28f,c4ed8000,bdcccccd:4788b800/41480000,3dcccccd,48c35000:3f800000,3f800000,bf800000:0da24260",
	)
	wantTable(t, "DropBody", func(list []impl.Body) string { return bodiesTold(impl.DropBody(list, 1)) },
		"3dcccccd,3e4ccccd,be99999a:3ecccccd,bf000000,3f19999a:3fc00000",
		"3fa66666,becccccd,3e4ccccd:3dcccccd,3f666666,be4ccccd:3f800000/3e99999a,3ff33333,3f4ccccd:3f333333,bdcccccd,3e99999a:40066666",
		"3f000000,3f000000,3dcccccd:3e4ccccd,00000000,bdcccccd:3f333333/bfa66666,3ecccccd,3f19999a:3dcccccd,be4ccccd,3f000000:00000000/3fd9999a,bf19999a,bf666666:00000000,3f333333,becccccd:3e99999a",
		"4b189680,c9f42400,40533333:3a83126f,44fa0000,bf333333:48927c00/41480000,3dcccccd,c8c35000:3f800000,3f800000,3f800000:0da24260",
	)
	wantTable(t, "RestBodies", func(list []impl.Body) string { return bodiesTold(impl.RestBodies(list)) },
		"3e2f8af9,bd924926,be2f8af8:3daf8af8,bdea0e9c,3dccccc8:3fc00000/bf83a83b,3edb6db6,3f83a83a:bf03a83b,3f2f8afa,bf19999b:3e800000",
		"3f5c71c6,bfbd82d8,be816c18:be96c16d,3f4aaaaa,bec00000:3f800000/bf91c71c,bef60b60,bf73e93f:bf31c71d,bf355556,3e666666:3f000000/be0e38e2,3f51c71c,3eb1c71c:3e9c71c6,be555556,3e000000:40066666",
		"be420564,3e31da48,3e21af29:3e896e7c,be8158ee,bdc20563:3f333333/be420564,3e31da48,3e21af29:be6d2308,3d420560,3e523082:3f666666/bffea712,3d96e7c4,3f286bcb:3e2c7692,bee7bf54,3f0158ed:00000000/3f8158ee,bf6d2308,bf579435:3d8c2057,3ee50d78,beca1af2:3e99999a",
		"4a727db4,c966f1a2,3f1fd2dc:bbb3c7fb,443875a0,be1afbd8:48927c00/cb81e7ea,4a777098,c02b3d56:3cc09f69,c545a298,3f260dd7:4788b800/cab7ee0d,4980ab30,c8c35056:3f7e56e7,c49da530,3fc63a1e:0da24260",
	)
}

func TestTablesOfWhatIsKept(t *testing.T) {
	wantTable(t, "MassOfBodies", func(list []impl.Body) string { return numberTold(impl.MassOfBodies(list)) },
		"3fe00000",
		"40666666",
		"3ff33332",
		"48b4aa00",
	)
	wantTable(t, "CentreOfBodies", func(list []impl.Body) string { return twoVectorsTold(impl.CentreOfBodies(list)) },
		"bd924925,3e8af8b0,be03a83c 3ea0ea0f,bec57c59,3f000001",
		"3ee0b60b,3f8a4fa5,3ee7d27e 3ec9f4a0,3dddddde,3e333334",
		"3f308159,3ea712dc,bd6d230b bd8c2057,3e8158ee,bbac76a0",
		"4ab7ee26,c980ab2f,402b3e7c 3bd48c97,449dc530,bf0c743d",
	)
	wantTable(t, "MomentumOfBodies", func(list []impl.Body) string { return vectorTold(impl.MomentumOfBodies(list)) },
		"3f0ccccd,bf2ccccd,3f600001",
		"3fb5c28f,3ec7ae14,3f2147ae",
		"be051eb9,3ef5c290,bc23d718",
		"45160000,4ddeaed6,c8463e00",
	)
	wantTable(t, "TurningOfBodies", func(list []impl.Body) string { return vectorTold(impl.TurningOfBodies(list)) },
		"be051eb8,beaf5c29,be7851ed",
		"3f9e147a,3fbdb22c,bfac49b8",
		"3e93f7cf,3e0b4397,3f0e978e",
		"52cc6f43,53fd6fa8,59d41c6e",
	)
	wantTable(t, "EnergyOfBodies", func(list []impl.Body) string { return numberTold(impl.EnergyOfBodies(list, 0.3)) },
		"3ec5a482",
		"bea16089",
		"c00896c4",
		"53291dd7",
	)
	wantTable(t, "EnergyOfBodies without a core", func(list []impl.Body) string { return numberTold(impl.EnergyOfBodies(list, 0)) },
		"3ec41d7e",
		"bea7a770",
		"bd188c9c",
		"53291dd7",
	)
}

func TestTablesOfWhatIsNear(t *testing.T) {
	wantTable(t, "NearestBodies", func(list []impl.Body) string { return nearestTold(impl.NearestBodies(list)) },
		"0 1 3fe27483",
		"1 2 4005f12c",
		"0 1 00000000",
		"0 2 4b1bbaad",
	)
	wantTable(t, "NearestPass", func(list []impl.Body) string { return passTold(impl.NearestPass(list, 0.1, 0.1, 20)) },
		"0 3fe27483",
		"17 3f34d9a4",
		"0 00000000",
		"20 4b1bb79b",
	)
	wantTable(t, "BoundTo", func(list []impl.Body) string { return boundTold(impl.BoundTo(list, 0, 1)) },
		"true",
		"false",
		"fail",
		"false",
	)
}

func TestTablesOfShapes(t *testing.T) {
	want(t, "circles of 1 and 2", bodiesTold(impl.CircleBodies(1, 2, 3)),
		"c0000000,00000000,00000000:00000000,bf2aaaab,00000000:3f800000/3f800000,00000000,00000000:00000000,3eaaaaab,00000000:40000000")
	want(t, "circles of 0.3 and 0.7", bodiesTold(impl.CircleBodies(0.3, 0.7, 1.1)),
		"bf451eb8,00000000,00000000:00000000,bf2adc49,00000000:3e99999a/3ea8f5c3,00000000,00000000:00000000,3e9273ad,00000000:3f333333")
	want(t, "circles of 0 and 1", bodiesTold(impl.CircleBodies(0, 1, 2)),
		"c0000000,00000000,00000000:00000000,bf3504f3,00000000:00000000/00000000,00000000,00000000:00000000,00000000,00000000:3f800000")
	want(t, "circles of 5 and 0", bodiesTold(impl.CircleBodies(5, 0, 0.1)),
		"80000000,00000000,00000000:00000000,80000000,00000000:40a00000/3dcccccd,00000000,00000000:00000000,40e24630,00000000:00000000")
	want(t, "circles of 0.001 and 100000", bodiesTold(impl.CircleBodies(0.001, 100000, 10000)),
		"c61c4000,00000000,00000000:00000000,c04a62c1,00000000:3a83126f/38d1b717,00000000,00000000:00000000,3307d19c,00000000:47c35000")
	want(t, "polygon of 2", bodiesTold(impl.PolygonBodies(2, 1, 4)),
		"3f800000,00000000,00000000:80000000,3f800000,00000000:40800000/bf800000,80000000,00000000:00000000,bf800000,00000000:40800000")
	want(t, "polygon of 3", bodiesTold(impl.PolygonBodies(3, 0.7, 0.3)),
		"3f333333,00000000,00000000:80000000,3efeaf0b,00000000:3e99999a/beb33339,3f1b3116,00000000:bedc9006,be7eaf14,00000000:3e99999a/beb33330,bf1b3117,00000000:3edc9008,be7eaf07,00000000:3e99999a")
	want(t, "polygon of 5", bodiesTold(impl.PolygonBodies(5, 2, 0)),
		"40000000,00000000,00000000:80000000,00000000,00000000:00000000/3f1e377c,3ff37871,00000000:80000000,00000000,00000000:00000000/bfcf1bbb,3f967918,00000000:80000000,80000000,00000000:00000000/bfcf1bbb,bf96791a,00000000:00000000,80000000,00000000:00000000/3f1e3770,bff37870,00000000:00000000,00000000,00000000:00000000")
	want(t, "polygon of 7", bodiesTold(impl.PolygonBodies(7, 100000, 2e+08)),
		"47c35000,00000000,00000000:80000000,4287c97c,00000000:4d3ebc20/47738cfc,4798b393,00000000:c254533e,422952dd,00000000:4d3ebc20/c6add82a,47be6a65,00000000:c28461f0,c171b93b,00000000:4d3ebc20/c7aff873,47297c5f,00000000:c1eba9c4,c274ae09,00000000:4d3ebc20/c7aff871,c7297c63,00000000:41eba9c9,c274ae06,00000000:4d3ebc20/c6add82a,c7be6a66,00000000:428461f1,c171b93b,00000000:4d3ebc20/47738d04,c798b392,00000000:4254533d,422952e2,00000000:4d3ebc20")
	want(t, "polygon of 16", bodiesTold(impl.PolygonBodies(16, 1.5, 1)),
		"3fc00000,00000000,00000000:80000000,400df2c2,00000000:3f800000/3fb16286,3f12f350,00000000:bf5948f6,400324a2,00000000:3f800000/3f87c3b6,3f87c3b6,00000000:bfc8bec3,3fc8bec3,00000000:3f800000/3f12f350,3fb16286,00000000:c00324a2,3f5948f6,00000000:3f800000/80000000,3fc00000,00000000:c00df2c2,80000000,00000000:3f800000/bf12f350,3fb16286,00000000:c00324a2,bf5948f6,00000000:3f800000/bf87c3b6,3f87c3b6,00000000:bfc8bec3,bfc8bec3,00000000:3f800000/bfb16286,3f12f350,00000000:bf5948f6,c00324a2,00000000:3f800000/bfc00000,80000000,00000000:00000000,c00df2c2,00000000:3f800000/bfb16286,bf12f350,00000000:3f5948f6,c00324a2,00000000:3f800000/bf87c3b6,bf87c3b6,00000000:3fc8bec3,bfc8bec3,00000000:3f800000/bf12f350,bfb16286,00000000:400324a2,bf5948f6,00000000:3f800000/00000000,bfc00000,00000000:400df2c2,00000000,00000000:3f800000/3f12f350,bfb16286,00000000:400324a2,3f5948f6,00000000:3f800000/3f87c3b6,bf87c3b6,00000000:3fc8bec3,3fc8bec3,00000000:3f800000/3fb16286,bf12f350,00000000:3f5948f6,400324a2,00000000:3f800000")
}
