package tests

import (
	"fmt"
	"strings"
	"testing"

	"loop.example/g01284/impl"
)

// scene has a ship in the frame of a share.
type scene struct {
	share float32
	ship  impl.Ship
}

func shipOf(x, y, right, up float32) impl.Ship {
	return impl.Ship{At: complex(x, y), Speed: complex(right, up)}
}

// scenes has the ships of the tables below, which come from another program,
// as those of chapters 2 and 3 do: ships on the axis, at points of rest, of
// zeros of both signs, of the least shares, of subnormal numbers, and so far
// away that numbers on the way are not finite. The last two are at masses.
func scenes() []scene {
	least, small, less := number(leastBits), number(subnormal), number(minusZero)
	return []scene{
		{0.5, shipOf(0.3, 0.4, 0.1, -0.2)},
		{0.5, shipOf(0, 0, 1, 2)},
		{0.5, shipOf(less, less, less, less)},
		{0.5, shipOf(-1.5, 0, 0, less)},
		{0.3, shipOf(0.2, 0.8660254, 0, 0)},
		{0.01215, shipOf(0.48785, -0.8660254, 0, 0)},
		{0.01215, shipOf(1.2, less, 0, -0.3)},
		{0.01215, shipOf(-0.5, 0, 0.05, 1.5)},
		{0.1, shipOf(1.5, -0.01, -0.2, 0.5)},
		{0.25, shipOf(-1.3, -0.2, 0.4, 0.6)},
		{3e-6, shipOf(1, -0.002, 0.02, 0.05)},
		{1e-20, shipOf(0.7, -0.7, 0.3, -0.9)},
		{least, shipOf(-0.8, -0.3, -0.2, 0.4)},
		{least, shipOf(1, 1e-14, 0, 0)},
		{0.4, shipOf(least, -small, small, -least)},
		{0.4, shipOf(3e12, -2e12, -1e11, 4)},
		{0.4, shipOf(1e20, 3e19, 1e19, -1e18)},
		{0.5, shipOf(0.5, 0, 0, 0)},
		{0.3, shipOf(-0.3, less, 1, 1)},
	}
}

func shipText(s impl.Ship) string { return complexText(s.At) + "," + complexText(s.Speed) }

func shipTold(s impl.Ship, ok bool) string { return toldOr(shipText(s), ok) }

func pointTold(x complex64, ok bool) string { return toldOr(complexText(x), ok) }

func pointsText(list []complex64) string {
	var parts []string
	for _, x := range list {
		parts = append(parts, complexText(x))
	}
	return strings.Join(parts, ",")
}

func pointsTold(list []complex64, ok bool) string { return toldOr(pointsText(list), ok) }

func numbersTold(list []float32, ok bool) string {
	var parts []string
	for _, x := range list {
		parts = append(parts, numberText(x))
	}
	return toldOr(strings.Join(parts, ","), ok)
}

func placesTold(greater, lesser float32, ok bool) string {
	return toldOr(numberText(greater)+","+numberText(lesser), ok)
}

func bendsTold(xx, xy, yy float32, ok bool) string {
	return toldOr(vectorText(vectorOf(xx, xy, yy)), ok)
}

func swaysTold(first, second complex64, ok bool) string {
	return toldOr(complexText(first)+","+complexText(second), ok)
}

// reachTold has a row of cells for each y, from the first one on.
func reachTold(cells []bool, ok bool) string {
	var text strings.Builder
	wide := 1
	for wide*wide < len(cells) {
		wide++
	}
	for i, reached := range cells {
		if i > 0 && i%wide == 0 {
			text.WriteByte('/')
		}
		text.WriteByte(map[bool]byte{false: '.', true: 'x'}[reached])
	}
	return toldOr(text.String(), ok)
}

// wantOfScenes tells the same of each of the scenes.
func wantOfScenes(t *testing.T, what string, tell func(scene) string, rows ...string) {
	t.Helper()
	for i, c := range scenes() {
		want(t, fmt.Sprintf("%s of scene %d", what, i), tell(c), rows[i])
	}
}

func TestTablesOfPotentials(t *testing.T) {
	wantOfScenes(t, "PotentialAt", func(c scene) string { return numberTold(impl.PotentialAt(c.share, c.ship.At)) },
		"3fe6a99c", "40000000", "40000000", "3ff00000", "3fb28f5c", "3fbf3b5b", "3fcbce1e", "400a1dd7", "3fed55d9", "3fd811df",
		"3fc030f5", "3fc00500", "3fc4885d", "3fc00000", "400aaaaa", "68ac0db7", "fail", "fail", "fail",
	)
	wantOfScenes(t, "SlopeAt", func(c scene) string { return pointTold(impl.SlopeAt(c.share, c.ship.At)) },
		"3f5be889c007659c", "0000000000000000", "0000000000000000", "bf60000000000000", "3280000033000000",
		"31b0000032b80000", "3e83f43600000000", "4069fe8700000000", "3f5eec7ebb501662", "bf18b38abd925304",
		"ba9083de3f3fffd3", "bcb06fa03cb06fa0", "3ef71cf23e3955b4", "00000000a3812dcb", "c028e38e0223a12e",
		"542e9f7cd3e8d4a5", "60ad78ec5fd02ab5", "fail", "fail",
	)
	wantOfScenes(t, "BendsAt", func(c scene) string { return bendsTold(impl.BendsAt(c.share, c.ship.At)) },
		"be83fcd0,c0bbd469,4108bf6a", "41880000,00000000,c0e00000", "41880000,00000000,c0e00000", "40080000,80000000,3ee00000",
		"3f400000,3f050580,400fffff", "3f400000,bfa23c82,40100001", "4094ef8f,80000000,bf53be3e", "4190303e,80000000,c0f0607c",
		"401754e4,bcdf3ea4,3ea2c765", "400e17ee,3eb1a3c5,3ed858cf", "c3b9ff83,bfd757ea,443b7faa", "3fc1f81c,bfc5e851,3fc1f81c",
		"40674548,3fca695b,bc28c440", "403fe90e,29071ba5,3b379304", "41bba12f,83743683,c123a12f", "3f800000,8120d518,3f800000",
		"3f800000,00000000,3f800000", "fail", "fail",
	)
	wantOfScenes(t, "PushOn", func(c scene) string { return pointTold(impl.PushOn(c.share, c.ship)) },
		"3eeb0445c0143269", "40800000c0000000", "0000000000000000", "bf60000000000000", "3280000033000000",
		"31b0000032b80000", "beaf3efe00000000", "40d4ff44bdcccccd", "3fef763f3ecb2ca0", "3f1a7faabf5f172e",
		"3dca8abe3f35c262", "bfe92824bf14161d", "3fa42da33f14bbd4", "00000000a3812dcb", "c028e38e0203a12e",
		"542e9f7cd3d18c2e", "60aa00be5f0ac724", "fail", "fail",
	)
	wantOfScenes(t, "ConstantOf", func(c scene) string { return numberTold(impl.ConstantOf(c.share, c.ship)) },
		"40637669", "bf800000", "40800000", "40700000", "40328f5c", "403f3b5b", "40460b8f", "400412b8", "405ac67d", "4036ca31",
		"40400172", "40066b66", "4037bb90", "40400000", "408aaaaa", "692bebd5", "fail", "fail", "fail",
	)
	wantOfScenes(t, "SpeedFor", func(c scene) string { return numberTold(impl.SpeedFor(c.share, c.ship.At, 1.5)) },
		"3fb9abb3", "3fca62c2", "3fca62c2", "3fc00000", "3f91614b", "3f9c238f", "3fa62077", "3fd6cd2e", "3fbe371c", "3faf527b",
		"3f9cec65", "3f9cc886", "3fa06cf2", "3f9cc471", "3fd774c3", "5451dee7", "fail", "fail", "fail",
	)
}

func TestTablesOfSways(t *testing.T) {
	wantOfScenes(t, "SwaysAt", func(c scene) string { return swaysTold(impl.SwaysAt(c.share, c.ship.At)) },
		"4109146e00000000,c088e9d600000000", "416504f300000000,c10504f300000000", "416504f300000000,c10504f300000000",
		"bf3800003f248924,bf380000bf248924", "bf0000023f8a4e1e,bf000002bf8a4e1e", "bdb61d8000000000,bf693c4c00000000",
		"3ff0523e00000000,c003399100000000", "41756a8b00000000,c10d3a4d00000000", "bf28a45f3f1025a2,bf28a45fbf1025a2",
		"bf2db9f03f19037c,bf2db9f0bf19037c", "443ad4e700000000,c3baa9fe00000000", "3db64c5800000000,bf87748e00000000",
		"3fb4192a00000000,bfe6e02200000000", "bc0afd8000000000,bf7d783f00000000", "41a62fb300000000,c138be3600000000",
		"bf80000000000000,bf80000000000000", "bf80000000000000,bf80000000000000", "fail",
		"fail",
	)
	wantOfScenes(t, "IsSteady", func(c scene) string { return fmt.Sprint(impl.IsSteady(c.share, c.ship.At)) },
		"false", "false", "false", "false", "false", "true", "false", "false", "false", "false",
		"false", "false", "false", "true", "false", "true", "true", "false", "false",
	)
}

func TestTablesOfShipSteps(t *testing.T) {
	wantOfScenes(t, "StepShip", func(c scene) string { return shipTold(impl.StepShip(c.share, c.ship, 0.05)) },
		"3e9c6afa3ec6293e,3df34cd6bea3f4a2", "3d6261993dc6bbfa,3f9ba0663fefa40e", "0000000000000000,0000000000000000",
		"bfc023d33818ead7,bd330f573b0f512d", "3e4ccccd3f5db3d7,3060ebef30c757cb", "3ef9c77abf5db3d7,2fa9fb1630913236",
		"3f998b99bc75711f,bc8bda82be9900fd", "befa75723d984a43,3ec3f29b3fbb65b3", "3fbf05233c7ca956,bdd956b43f03edf4",
		"bfa3bec3be2f3677,3edbd61f3f0e2fb9", "3f7f68763b667955,bddfa4163e2c642b", "3f3675ebbf3ee533,3e56c518bf6d3703",
		"bf4ef1a5be8f04dd,be09c8ea3ed9d2ab", "3f800000283424c7,9f25360da14e5775", "bb590efa38e696f3,be0837033bd896b3",
		"542e8badd3e91b62,51285806d1b56282", "60ae8d9c5fcfe0c8,5f4f36b0dd25e8c3", "fail",
		"fail",
	)
	wantOfScenes(t, "StepShip, back,", func(c scene) string { return shipTold(impl.StepShip(c.share, c.ship, -0.3)) },
		"3e9e5e8e3ebaa8f4,be70999e3ed5c2c0", "be0ad02abf1cda43,bd9a9df03ff85fa8", "0000000000000000,8000000080000000",
		"bfc4f7cdbc010626,3e82880b3d9f9325", "3e4ccccd3f5db3d7,b0dbf48ab226bb99", "3ef9c77abf5db3d7,2fe9eecdb1deeab3",
		"3f97b6693dafecd3,3dc0c7d9be850557", "be6ee5acbead0940,bfd832793eaae784", "3fd2275cbe01813d,bf3bb7a53e6899e2",
		"bfb1ea24bed4b178,3e434d853f52c000", "3f7ecbf3bc06d6a4,3c09aa543cd24438", "3f060761beed41c0,3f669f22bf2990ae",
		"bf2fffcdbec2fccb,bf0837ce3dc2098c", "3f8000002834220a,a1b46f632291bf2b", "be0fa150bcc28f5d,3f8efc493e6f183d",
		"54390505d3eee5a5,d382c9fb5267c277", "60af82c55fdb67bd,df685633df2d90af", "fail",
		"fail",
	)
	wantOfScenes(t, "RunShip", func(c scene) string { return shipTold(impl.RunShip(c.share, c.ship, 0.02, 40)) },
		"3f328d8c3e8ba7d0,be2397b43e871b5b", "3fb35b4bbcc02fc4,3f9b076ebfe28919", "0000000000000000,0000000000000000",
		"bfe011a63e123540,bf0cdd1e3f050192", "3e4ccccd3f5db3d7,32c3b5d231f84e7f", "3ef9c77abf5db3d7,32695a9b320aa304",
		"3f8f332dbe30f9ac,be1379a1bd9567c8", "beb86620bd6aaa40,bf87d7483fccd991", "3ff5cb583e614e8f,3f93509ebe87b80f",
		"bf53b271bd835bed,3f49ab92beab6739", "3f7683673d2f8579,bcde4a043dad40de", "3ed098a5bfb8762d,bf747ce2bf4092d2",
		"bee96ff8bd63ee33,3fa58d58be169b10", "3f8000002834143e,a3050655a30140d3", "bfa0d241bf846915,c0443273bfdd13aa",
		"5448013cd42c8391,52ee7072d41dadf2", "60ed69755f5b94a9,607cf20fe039bee9", "fail",
		"fail",
	)
	wantOfScenes(t, "TraceShip", func(c scene) string { return pointsTold(impl.TraceShip(c.share, c.ship, 0.07, 3)) },
		"3e99999a3ecccccd,3e9da9b03ec29f75,3ea259153eb1e684,3ea759b63e997b0a",
		"0000000000000000,3da4e9753e090a40,3e3c80983e80032d,3e9ed23a3eae5022",
		"8000000080000000,0000000000000000,0000000000000000,0000000000000000",
		"bfc0000000000000,bfc0463138d1cd76,bfc1181f3a5186ad,bfc273d63b307827",
		"3e4ccccd3f5db3d7,3e4ccccd3f5db3d7,3e4ccccd3f5db3d7,3e4ccccd3f5db3d7",
		"3ef9c77abf5db3d7,3ef9c77abf5db3d7,3ef9c77abf5db3d7,3ef9c77abf5db3d7",
		"3f99999a80000000,3f997e30bcab9888,3f992cbcbd2a4b9a,3f98a78fbd7c3afd",
		"bf00000000000000,bef5dc923dd3a3a6,bedb3f563e4a48e7,beb100293e8bf527",
		"3fc00000bc23d70a,3fbecbf13cd314ab,3fbec6bf3d7eefa8,3fbff1783dc9124e",
		"bfa66666be4ccccd,bfa2a1a8be240693,bf9e833cbdffcfbf,bf9a122cbdc16e76",
		"3f800000bb03126f,3f7eecca3b1bfc05,3f7c7caa3c00a9bf,3f7a3b8a3c6eb24a",
		"3f333333bf333333,3f37716abf43a9f0,3f39745cbf54b058,3f3947fdbf661af6",
		"bf4ccccdbe99999a,bf4f906ebe8a9eaf,bf50a144be756238,bf4fea1fbe54aa1e",
		"3f800000283424dc,3f800000283424b4,3f8000002834243b,3f80000028342375",
		"00000001807fffff,bbd58dee399e2f3a,bcdae6f23b1f7c39,bd80bb063c07efbf",
		"542e9f7cd3e8d4a5,542ea16ad3e96221,542f69a6d3eb3151,5430e0b4d3ee78ce",
		"60ad78ec5fd02ab5,60af1b0a5fcfc5ca,60b195205fcf3eef,60b4e6f95fce1c66",
		"fail",
		"fail",
	)
}

func TestTablesOfTurns(t *testing.T) {
	wantOfScenes(t, "MirrorShip", func(c scene) string { return shipTold(impl.MirrorShip(c.ship)) },
		"3e99999abecccccd,bdcccccdbe4ccccd", "0000000080000000,bf80000040000000", "8000000000000000,0000000080000000",
		"bfc0000080000000,8000000080000000", "3e4ccccdbf5db3d7,8000000000000000", "3ef9c77a3f5db3d7,8000000000000000",
		"3f99999a00000000,80000000be99999a", "bf00000080000000,bd4ccccd3fc00000", "3fc000003c23d70a,3e4ccccd3f000000",
		"bfa666663e4ccccd,becccccd3f19999a", "3f8000003b03126f,bca3d70a3d4ccccd", "3f3333333f333333,be99999abf666666",
		"bf4ccccd3e99999a,3e4ccccd3ecccccd", "3f800000a83424dc,8000000000000000", "00000001007fffff,807fffff80000001",
		"542e9f7c53e8d4a5,51ba43b740800000", "60ad78ecdfd02ab5,df0ac723dd5e0b6b", "3f00000080000000,8000000000000000",
		"be99999a00000000,bf8000003f800000",
	)
	wantOfScenes(t, "TurnIn", func(c scene) string { return shipTold(impl.TurnIn(c.ship, 0.7)) },
		"3ef96a613de6c05c,3d770a00bf345c13", "0000000000000000,400368e63f62adf3", "8000000000000000,0000000000000000",
		"bf92d9863f77612c,3f77612c3f92d986", "3f35fc0e3f08955f,3f08955fbf35fc0e", "be3d371fbf7a0605,bf7a06053e3d371f",
		"3f6af5a4bf45e757,bf77612cbf92d986", "bec3ccb33ea4eb73,3fa9d0913fbfad37", "3f92066dbf79566c,bf4e09a3bf212a9d",
		"bf8fc3003f2f3c58,3fb040f23fa98485", "3f437843bf254fb3,bf19263bbf3cfa6a", "3daced66bf7c80e7,bfab187fbf774fbc",
		"bf4e1d983e92644d,3ec801fc3f9eb5af", "3f43ccb3bf24eb73,bf24eb73bf43ccb3", "805275b88061e659,8000000180000002",
		"536a3fb8d44988d9,d44dfc8dd35b3fe2", "60a63486e00fe689,dfef331ae0b2b515", "3ec3ccb3bea4eb73,bea4eb73bec3ccb3",
		"be6af5a43e45e757,3fcd18fe3eb33d51",
	)
	wantOfScenes(t, "TurnOut", func(c scene) string { return shipTold(impl.TurnOut(c.ship, -2.9)) },
		"be484827beeb99d6,3ea16385bccf6e10", "0000000080000000,befc23aac00b9838", "0000000000000000,8000000000000000",
		"3fba6c893eb7be53,beb7be533fba6c89", "3c551013bf63836f,3f63836f3c551013", "bf2e4e043f396255,bf396255bf2e4e04",
		"bf9523a1be92fea9,3e5c7dfebf5fb572", "3ef890b73df4fdc4,3e434739bf7ba0b0", "bfbabaefbeb2c5ac,3f29b919bff2bf2b",
		"3f9b71523f0155d1,bf40033d3f093f3b", "bf78b013be7300b4,3e6b5df9bf832ba6", "bf58de823f031f4a,bf82684dbd388e63",
		"3f347a573ef722bd,be456c323eba9a49", "bf7890b7be74fdc4,3e74fdc4bf7890b7", "801e9fb9007c485a,80f890b5803d3f71",
		"d4456766538e8310,d3833562d44402e4", "e09bfbc4e0381121,60158ccbe09e730d", "bef890b7bdf4fdc4,3df4fdc4bef890b7",
		"3e9523a13d92fea9,bf4db11bbf6b3e57",
	)
}

func TestTablesOfFlights(t *testing.T) {
	wantOfScenes(t, "CrossingsOf", func(c scene) string { return pointsTold(impl.CrossingsOf(c.share, c.ship, 0.1, 64)) },
		"3f3890923f298192,3e556a3ec047329d,c1cf5da0c09b943c", "c0818fe9bf4354ec",
		"", "",
		"", "",
		"3f8d3e3c3dbf6337", "be7892e73bed2e00,be3093723fd63eba,bb081930c0090916",
		"3fbfbc61be27487c,c103ba03bfcffb94", "3ea881cd3f6a9a07,c20610edc136ba43",
		"3f7fcec3bc7f69f0", "bfea857e3e0509c5",
		"3df3fbea40462836,c10e30bec0021341", "",
		"8273f93a849a8562,bfa8234abf8670f5", "d54e8740d447d539",
		"e1d6d38fe0ab4d75", "fail",
		"fail",
	)
	wantOfScenes(t, "ClosestPass", func(c scene) string { return passTold(impl.ClosestPass(c.share, c.ship, 0.05, 50)) },
		"17 3d465959", "4 3ec7bf83", "0 3f000000", "0 40000000", "0 3f800000", "0 3f800000",
		"37 3de33982", "48 3f215bff", "2 3f1741c3", "41 3cd2f958", "0 3b031279", "0 3f42f6bb",
		"26 3f1f7662", "31 28340489", "0 3f19999a", "0 5451dee7", "0 60b51c47", "fail",
		"fail",
	)
	wantOfScenes(t, "PartingOf", func(c scene) string {
		return numberTold(impl.PartingOf(c.share, c.ship, complex(0.01, -0.02), 0.06, 7))
	},
		"4093ef9e", "3fc7bbc2", "3f85d621", "3e403787", "3e85090b", "3f0b34a5", "3ec0ecde", "402a74d7", "3e2df60f", "3e05930e",
		"4066538c", "3eef01e2", "bd51113f", "3e4cd273", "40536cfd", "fail", "fail", "fail", "fail",
	)
}

func TestTablesOfPoints(t *testing.T) {
	for _, row := range []struct {
		share                 uint32
		masses, points, gates string
	}{
		{0x3f000000, "bf000000,3f000000", "327f7cee00000000,3f99655f00000000,bf99656000000000,000000003f5db3d7,00000000bf5db3d7", "40800000,405d3c26,405d3c27,40300000,40300000"},
		{0x3efdb2ae, "befdb2ae,3f0126a9", "3bcfff2200000000,3f99985b00000000,bf99322300000000,3b9354803f5db3d7,3b935480bf5db3d7", "407fff60,405d7040,405d078a,40300054,40300054"},
		{0x3edda4d2, "bedda4d2,3f112d97", "3dc247f200000000,3f9c405400000000,bf9650bf00000000,3d896cb83f5db3d7,3d896cb8bf5db3d7", "407f7441,40600afc,4059fb7a,403049c6,403049c6"},
		{0x3e99999a, "be99999a,3f333333", "3e927f9900000000,3fa0dcae00000000,bf8fc53400000000,3e4ccccc3f5db3d7,3e4cccccbf5db3d7", "407ae3bc,40639c45,4052a57b,40328f5c,40328f5c"},
		{0x3dcccccd, "bdcccccd,3f666666", "3f1be9b900000000,3fa13dd700000000,bf85537100000000,3ecccccd3f5db3d7,3ecccccdbf5db3d7", "4066347b,405dde28,40465f7d,403a3d71,403a3d71"},
		{0x3d23d70a, "bd23d70a,3f75c28f", "3f3dac4400000000,3f9bb3ff00000000,bf82220500000000,3eeb851f3f5db3d7,3eeb851fbf5db3d7", "4057db5e,405477e3,40428e99,403d8ada,403d8ada"},
		{0x3c4710cb, "bc4710cb,3f7ce3bd", "3f56404200000000,3f93ed5100000000,bf80a5e300000000,3ef9c77a3f5db3d7,3ef9c77abf5db3d7", "404c0db1,404b0499,4040c702,403f3b5b,403f3b5b"},
		{0x3a83126f, "ba83126f,3f7fbe77", "3f6e68d300000000,3f88f30200000000,bf800da800000000,3eff7cee3f5db3d7,3eff7ceebf5db3d7", "40428e86,404278ab,40401062,403fefa2,403fefa2"},
		{0x3649539c, "b649539c,3f7fffce", "3f7d72a200000000,3f8148ab00000000,bf80000b00000000,3effff9b3f5db3d7,3effff9bbf5db3d7", "40400e95,40400e84,4040000d,403ffff3,403ffff3"},
		{0x3089705f, "b089705f,3f800000", "3f7fbe7600000000,3f8020c500000000,bf80000100000000,3f0000003f5db3d7,3f000000bf5db3d7", "40400014,40400014,40400000,40400000,40400000"},
		{0x1e3ce508, "9e3ce508,3f800000", "3f7fbe7600000000,3f8020c500000000,bf80000100000000,3f0000003f5db3d7,3f000000bf5db3d7", "4040000c,4040000c,40400000,40400000,40400000"},
		{0x00000001, "80000001,3f800000", "3f7fbe7600000000,3f8020c500000000,bf80000000000000,3f0000003f5db3d7,3f000000bf5db3d7", "4040000c,4040000c,40400000,40400000,40400000"},
	} {
		share := number(row.share)
		want(t, fmt.Sprint("MassesAt ", share), placesTold(impl.MassesAt(share)), row.masses)
		want(t, fmt.Sprint("PointsOf ", share), pointsTold(impl.PointsOf(share)), row.points)
		want(t, fmt.Sprint("GatesOf ", share), numbersTold(impl.GatesOf(share)), row.gates)
	}
}

func TestTablesOfReach(t *testing.T) {
	want(t, "ReachMap of 0.5", reachTold(impl.ReachMap(0.5, 3.5, 1.5, 7)),
		"xx...xx/x.....x/..x.x../.xxxxx./..x.x../x.....x/xx...xx")
	want(t, "ReachMap of 0.01215", reachTold(impl.ReachMap(0.01215, 3.18, 1.6, 16)),
		"xxxxxxxxxxxxxxxx/xxxxxxxxxxxxxxxx/xxxxx......xxxxx/xxxx........xxxx/xxx...xxxx...xxx/xx...xxxxxx...xx/xx..xxxxxxxx..xx/xx..xxxxxxxx..xx/xx..xxxxxxxx..xx/xx..xxxxxxxx..xx/xx...xxxxxx...xx/xxx...xxxx...xxx/xxxx........xxxx/xxxxx......xxxxx/xxxxxxxxxxxxxxxx/xxxxxxxxxxxxxxxx")
	want(t, "ReachMap of 0.2", reachTold(impl.ReachMap(0.2, -1, 2.5, 3)),
		"xxx/xxx/xxx")
	want(t, "ReachMap of 0.3", reachTold(impl.ReachMap(0.3, 3.9, 0.8, 5)),
		"...../xxx../xxxxx/xxx../.....")
}
