package tests

import (
	"fmt"
	"strings"
	"testing"

	"loop.example/g01284/impl"
)

// The tables below come from another program, as those of chapters 2 to 6 do.

// watching has an orbit around a mass, times and noise for looks at it, other
// looks, and rounds of a fit.
type watching struct {
	orbit  impl.Orbit
	mass   float32
	times  []float32
	size   float32
	seed   int64
	looks  []impl.Look
	rounds int64
}

// solving has the numbers of equations.
type solving struct {
	a, b []float32
}

func lookOf(time, right, up, far, weight float32) impl.Look {
	return impl.Look{Time: time, Right: right, Up: up, Far: far, Weight: weight}
}

func entryOf(name string, mass float32, o impl.Orbit) impl.Entry {
	return impl.Entry{Name: name, Mass: mass, Orbit: o}
}

// watchings has orbits in the plane, over the poles and around half a turn,
// branches, looks that fit, that nearly fit and that do not, looks of one time,
// weights of 0, subnormal and great numbers, and numbers that come out not
// finite.
func watchings() []watching {
	least, small, norm, most, less := oddOnes()
	none := []impl.Look{}
	over, half := impl.Orbit{Long: 2, Tilt: 0.25, Phase: 0.2}, impl.Orbit{Long: 1, Phase: 0.45}
	return []watching{
		{impl.Orbit{Long: 1}, 1, []float32{0, 1}, 0, 0, []impl.Look{lookOf(0, 0, 0, 1, 1)}, 1},
		{impl.Orbit{Long: 1.45, Round: 0.42, Tilt: 0.11, Node: 0.19, Peri: 0.31, Phase: 0.6}, 1.7, []float32{-2, 0.5, 1.25, 3}, 0.01, 12345, []impl.Look{
			lookOf(-2, -0.06189, -0.1046, 2, 1), lookOf(0.5, 0.103, -0.07115, 1.957, 1), lookOf(1.25, 0.1412, -0.03704, 1.755, 0.5),
			lookOf(3, 0.3421, 0.08973, 1.013, 2), lookOf(4, -0.3589, 0.04633, 0.9782, 1), lookOf(5.5, -0.1713, -0.06932, 1.616, 1),
		}, 3},
		{impl.Orbit{Long: -1.5, Round: 1.5, Tilt: 0.1, Node: 0.21, Peri: 0.3, Phase: -0.5}, 0.8, []float32{2.5, -1}, 0.125, 2147483647, []impl.Look{
			lookOf(-1, 0.1602, -0.03365, 8.464, 1), lookOf(0, 0.1643, -0.01827, 7.615, 1), lookOf(0.5, 0.1713, -0.01784, 7.191, 0.5), lookOf(1.5, 0.1615, -0.02825, 6.338, 2),
		}, 2},
		{impl.Orbit{Long: 40, Round: 0.97, Tilt: 0.25, Node: 0.5, Peri: 0.55, Phase: 0.02}, 1, []float32{-3, 0, 10}, 1, 77, []impl.Look{
			lookOf(-3, 0.5002, -0.03738, 13.78, 1), lookOf(0, 0.4998, -0.0331, 14.75, 1), lookOf(10, -0.5002, -0.02469, 17.73, 0.5), lookOf(20, 1.4991, -0.01686, 20.44, 2),
		}, 2},
		{over, 1, []float32{0, 0.8884, 3}, 0.003, 1, []impl.Look{lookOf(0, 0.000915, 0.1993, 1.999, 1), lookOf(1, 0.4978, 0.2429, 2.001, 1), lookOf(2, 0.502, 0.1873, 2.001, 0.5)}, 2},
		{half, 1, []float32{0.3141, 0.3142, 0.5}, 0.001, 31, []impl.Look{
			lookOf(0, 0.4507, -0.000309, 0.9994, 1), lookOf(0.1, 0.4673, -0.001848, 0.9981, 1), lookOf(0.2, -0.5192, 0.0008557, 1.002, 0.5), lookOf(0.3, 0.4979, 0.000402, 0.9986, 2),
			lookOf(0.5, -0.4703, -0.001155, 0.9982, 1), lookOf(0.7, 0.5613, -0.001599, 1.001, 1),
		}, 4},
		{impl.Orbit{Long: 42164, Round: 0.01, Tilt: 0.02, Node: 0.3, Peri: 0.6, Phase: 0.2}, 398600.44, []float32{0, 3600}, 0.5, 3, []impl.Look{
			lookOf(0, 0.1034, -0.01896, 42140, 1), lookOf(3600, 0.1456, -0.01644, 42150, 1), lookOf(14400, 0.2696, -0.003887, 42450, 1e-6), lookOf(30000, 0.4466, 0.01593, 42570, 0),
		}, 2},
		{impl.Orbit{Long: 2, Round: 0.1}, 1, nil, 0.1, 5, none, 8},
		{impl.Orbit{Long: 2, Round: 0.1, Peri: 0.5}, 1, []float32{less}, less, 6, []impl.Look{lookOf(0, 0.2, 0.1, 1.5, 0), lookOf(1, 0.3, -0.1, 1.9, less)}, 2},
		{anEllipse(), 1, []float32{4}, 100, 8, []impl.Look{lookOf(0, 0.2, 0.1, 1.5, 1), lookOf(0, 0.2, 0.1, 1.5, 1)}, 1},
		{impl.Orbit{Long: 1, Round: less, Tilt: less, Node: less, Peri: less, Phase: less}, 1, []float32{less, 0}, least, 0, []impl.Look{lookOf(less, less, less, 1, 1), lookOf(0, least, -small, norm, 3)}, 1},
		{impl.Orbit{Long: least, Round: 0.4, Tilt: small, Node: least, Peri: small, Phase: least}, least, []float32{0}, norm, 4, []impl.Look{lookOf(0, 0.1, 0.1, 1, 1)}, 1},
		{impl.Orbit{Long: 1e18, Tilt: 0.1, Phase: 0.3}, most, []float32{1, 1e20}, 1e30, 4, []impl.Look{lookOf(1, 0.25, 0.1, 1e18, 1), lookOf(2, 0.25, 0.1, 3e18, 1e-20)}, 1},
		{impl.Orbit{Long: 2e19}, 1, []float32{0}, 0, 4, []impl.Look{lookOf(0, 0, 0, 2e19, 1)}, 1},
		{impl.Orbit{Long: least}, most, []float32{0}, 0, 4, []impl.Look{lookOf(0, 0, 0, 1, 1)}, 0},
		{impl.Orbit{Long: 2, Phase: 0.3}, 1, []float32{0}, most, 4, []impl.Look{lookOf(0, most, -most, most, 0), lookOf(0, 0.3, 0, 2.5, 1), lookOf(0, -most, 1, 2, 1e-38)}, 1},
		{impl.Orbit{Long: 2, Phase: 0.3}, 1, []float32{0, 1}, most, 1000, []impl.Look{lookOf(1, 0.3, 0, 1e18, 1), lookOf(0, 0.3, 0, 1e19, 2), lookOf(0, 0.3, 0, -1e19, 2)}, 1},
		{impl.Orbit{Long: -2, Round: 3, Phase: 15.9}, 1, []float32{0, 100}, 0.5, 1000, []impl.Look{lookOf(-1, 0.3, 0, 300, 1), lookOf(100, 0.3, 0, 300, 0)}, 1},
	}
}

// solvings has rows that change places, at once and later, equal absolute
// values, squares that can't be solved, and numbers that come out not finite.
func solvings() []solving {
	least, small, norm, most, less := oddOnes()
	return []solving{
		{[]float32{2}, []float32{3}},
		{[]float32{-3}, []float32{1}},
		{[]float32{0}, []float32{1}},
		{[]float32{less}, []float32{less}},
		{[]float32{least}, []float32{small}},
		{[]float32{small}, []float32{most}},
		{[]float32{most}, []float32{norm}},
		{[]float32{0, 2, 4, 0}, []float32{2, 8}},
		{[]float32{0.1, 0.7, -0.1, 0.3}, []float32{0.2, 0.9}},
		{[]float32{-0.1, 0.3, 0.1, 0.7}, []float32{0.9, 0.2}},
		{[]float32{1, 2, 2, 4}, []float32{1, 2}},
		{[]float32{3, 1, 1, 3}, []float32{less, 0}},
		{[]float32{0.1, 0.2, 0.3, 0.4, 0.5, 0.6, 0.7, 0.8, 0.9}, []float32{1, 2, 3}},
		{[]float32{1, 2, 3, 4, 5, 6, 7, 8, 10}, []float32{1, -1, 0.1}},
		{[]float32{0, 0, 3, 0, 0.7, 1, 0.3, 1, 1}, []float32{1, 2, 3}},
		{[]float32{1.1, 3, 7, -1.1, 5, 0.3, 1.1, -0.7, 0.9}, []float32{0.1, 0.2, 0.3}},
		{[]float32{1.1, 3, 7, 0.5, 2.3, 0.3, 0.5, 0.4, 0.9}, []float32{0.1, 0.2, 0.3}},
		{[]float32{1, 0, 0, 0, 0, 1, 0, 1, 0}, []float32{5, 6, 7}},
		{[]float32{1, 2, 3, 2, 4, 7, 0, 0, 0}, []float32{1, 2, 3}},
		{[]float32{0.4, 1.3, -2.2, 0.7, 3.1, -0.6, 0.2, 1.9, 0.8, 0.9, 1.7, -1.4, -2.6, 0.5, 0.1, 3.3}, []float32{0.3, -1.1, 2.4, 0.6}},
		{[]float32{
			2.1, -0.3, 0.9, 1.7, 0, -1.3, 0.8, 0.2, -2.4, 3.3, 1, 0.6, -2.1, 1.4, 0.3, 0.7,
			2.2, 0.5, -1.9, 0.1, 1.2, 0.4, -0.8,
			3.1, 0.2,
		}, []float32{1, 0.3, -0.2, 0.7, 2}},
		{[]float32{
			0.3, 1.7, -2.2, 0.9, 1.1, 0.4, 1.6, -0.2, 0.7, 2.8, -0.6, 1.5, -0.9, 0.5, 3.1, 0.2, 0.8, -1.4,
			2.3, 1.9, 0.6, -1.2, 0.1, 0.3, 0.7, -2.6, 1.8, 0.4, 2.9, 0.5, 1.3, 0.6, -0.3, 1.1, 0.2, 2.4,
		}, []float32{1, -2, 0.5, 0.7, -0.1, 3}},
		{[]float32{1, 3e38, -1, 3e38}, []float32{1, 1}},
		{[]float32{1, 3e38, 3e38, -1, 3e38, 3e38, 0.5, 1, 2}, []float32{1, 2, 3}},
		{[]float32{1, 3e38, 2, -1, 3e38, 2, -1, 3e38, 7}, []float32{1, 2, 3}},
		{[]float32{1e-30, 1, 1, 1e-30}, []float32{1e30, -1e30}},
		{[]float32{norm, small, least, norm}, []float32{small, least}},
		{[]float32{1, 2, 3}, []float32{1, 2}},
		{[]float32{1, 0, 0, 1}, []float32{1}},
		{nil, nil},
	}
}

// storings has names of one and of eight letters, and orbits with numbers of
// all kinds.
func storings() []impl.Entry {
	least, small, norm, most, less := oddOnes()
	return []impl.Entry{
		entryOf("moon", 1, impl.Orbit{Long: 1}),
		entryOf("a", 0.1, anEllipse()),
		entryOf("zzzzzzzz", most, aBranch()),
		entryOf("abcdefgh", least, impl.Orbit{Long: small, Round: less, Tilt: norm, Node: least, Peri: less, Phase: 0.99}),
		entryOf("io", 1, impl.Orbit{Long: -most, Round: most, Tilt: 0.5, Node: number(oneBits - 1), Phase: -16}),
		entryOf("", 1, impl.Orbit{Long: 1}),
		entryOf("abcdefghi", 1, impl.Orbit{Long: 1}),
		entryOf("io", 0, impl.Orbit{Long: 1}),
		entryOf("io", 1, impl.Orbit{}),
	}
}

func lookText(l impl.Look) string {
	return numbersTold([]float32{l.Time, l.Right, l.Up, l.Far, l.Weight}, true)
}

func lookTold(l impl.Look, ok bool) string { return toldOr(lookText(l), ok) }

func looksText(list []impl.Look) string {
	var parts []string
	for _, l := range list {
		parts = append(parts, lookText(l))
	}
	return strings.Join(parts, "/")
}

func looksTold(list []impl.Look, ok bool) string { return toldOr(looksText(list), ok) }

func noisyTold(list []impl.Look, seed int64, ok bool) string {
	return toldOr(fmt.Sprint(looksText(list), " ", seed), ok)
}

func worstTold(i int64, square float32, ok bool) string {
	return toldOr(fmt.Sprint(i, " ", numberText(square)), ok)
}

func fitTold(o impl.Orbit, sums []float32, ok bool) string {
	return toldOr(orbitText(o)+" "+numbersTold(sums, true), ok)
}

func bytesTold(s string, ok bool) string { return toldOr(fmt.Sprintf("%x", s), ok) }

// eachTold tells the same of each one of a list.
func eachTold[T any](list []T, tell func(T) string) string {
	var parts []string
	for _, x := range list {
		parts = append(parts, tell(x))
	}
	return strings.Join(parts, "/")
}

func TestTablesOfLooks(t *testing.T) {
	wantOfRows(t, "LookAt", watchings(), func(c watching) string {
		return eachTold(c.times, func(time float32) string { return lookTold(impl.LookAt(c.orbit, c.mass, time)) })
	},
		"00000000,00000000,00000000,3f800000,3f800000/3f800000,3e22f983,00000000,3f800000,3f800000",
		"c0000000,bd867cf6,bde12db0,3ff9014b,3f800000/3f000000,3dc3aa35,bd8d3f7b,3ff404ce,3f800000/3fa00000,3e10a110,bd1f65fb,3fd7b3bd,3f800000/40400000,3ebfc477,3dd378bc,3f67722f,3f800000",
		"40200000,3e4e5aaf,bbc9bdf8,40874099,3f800000/bf800000,3e3c0266,bc9ba5f3,40e96eab,3f800000",
		"c0400000,3f000000,bd17c9db,415c811c,3f800000/00000000,3f000000,bd08ffea,416bf422,3f800000/41200000,3f000000,bcc59a16,418dde8d,3f800000",
		"00000000,00000000,3e4ccccd,40000000,3f800000/3f636e2f,00000000,3e7ffd65,40000000,3f800000/40400000,3f000000,3e0656da,40000000,3f800000",
		"3ea0d1b7,3efffec3,00000000,3f800000,3f800000/3ea0ded3,beffff26,00000000,3f800000,3f800000/3f000000,bef0db3a,00000000,3f800000,3f800000",
		"00000000,3dd3d2e5,bc9ac83e,47243589,3f800000/45610000,3e150a97,bc876afe,4724a272,3f800000", "", "80000000,3f000000,00000000,3fe66666,3f800000",
		"40800000,3eb6f9d9,3db1ce7f,3f7c72f8,3f800000", "80000000,00000000,00000000,3f800000,3f800000/00000000,00000000,00000000,3f800000,3f800000",
		"00000000,00000000,00000000,00000000,3f800000", "3f800000,3e9f1ed2,3dc15a62,5d5e0b6b,3f800000/60ad78ec,bea15930,bdbfa1b6,5d5e0b6c,3f800000", "fail",
		"fail", "00000000,3e99999a,00000000,3fffffff,3f800000", "00000000,3e99999a,00000000,3fffffff,3f800000/3f800000,3eb668fe,00000000,40000000,3f800000",
		"00000000,3e99781e,00000000,434e5f69,3f800000/fail",
	)
	wantOfRows(t, "NoisyLooks", watchings(), func(c watching) string {
		return noisyTold(impl.NoisyLooks(c.orbit, c.mass, c.times, c.size, c.seed))
	},
		"00000000,00000000,00000000,3f800000,3f800000/3f800000,3e22f983,00000000,3f800000,3f800000 1109335178",
		"c0000000,bd802215,bde92c68,3ff973f4,3f800000/3f000000,3db38eb0,bd8c91b8,3ff3fe06,3f800000/3fa00000,3e12ba2f,bd2a0da9,3fd71442,3f800000/40400000,3ebe7aa0,3de0ce7f,3f65c52f,3f800000 370913197",
		"40200000,3e4accaf,bdc7b7e0,4085a8f9,3f800000/bf800000,3e865f33,bd9ec57d,40ec52cb,3f800000 1849869457",
		"c0400000,3f229400,3ee326c5,415fb65c,3f800000/00000000,3f9cb200,3f2c2401,417acd62,3f800000/41200000,3f9b6e00,3e8a6e5f,419590ad,3f800000 2106668122",
		"00000000,38ae5604,3e4acec1,3fffda60,3f800000/3f636e2f,395926ea,3e815eb5,3fffbf75,3f800000/40400000,3f004f83,3e04a888,3ffffef8,3f800000 1062517886",
		"3ea0d1b7,3f0037b6,3a19cac1,3f7ff602,3f800000/3ea0ded3,bf0016f1,ba2b3b65,3f801567,3f800000/3f000000,bef1498c,3a69645b,3f7fddd5,3f800000 513966084",
		"00000000,3e148172,be9aa084,4724355a,3f800000/45610000,bdce6ad2,3de70540,4724a26d,3f800000 1035215989", " 5",
		"80000000,3f000000,00000000,3fe66666,3f800000 704025629", "40800000,c29aecc6,42801a74,c1ff4b68,3f800000 720506247",
		"80000000,80000001,00000000,3f800000,3f800000/00000000,00000000,80000001,3f800000,3f800000 1109335178",
		"00000000,8071ce00,003ccc00,802e0a00,3f800000 687545011",
		"3f800000,f1338d59,70bfd753,f091460f,3f800000/60ad78ec,f11c34f0,ef40ade5,f11287ea,3f800000 294681710", "fail", "fail",
		"00000000,ff639bff,7ef32fff,feb827ff,3f800000 687545011",
		"00000000,7f3a87ff,ff03e3ff,ff374bff,3f800000/3f800000,ff00ebff,7f6eafff,7eb6afff,3f800000 1456914738", "fail",
	)
}

func TestTablesOfMisses(t *testing.T) {
	wantOfRows(t, "MissOf", watchings(), func(c watching) string {
		return eachTold(c.looks, func(l impl.Look) string { return threeTold(impl.MissOf(c.orbit, c.mass, l)) })
	},
		"00000000,00000000,00000000",
		"3b7798e0,3baf52a0,3d5fd6a0/3bf47750,bb0ef380,3d4f4580/b8254000,3af5d740,3d8f01a0/bd04e5e0,bc5da2f8,3ddf0e48/bd24a248,3d204d30,bd03f890/bce62188,3cf2f298,bd9b71c0",
		"bcbfb770,bc70066e,3f95a9ac/bcb9fa40,badc27d0,3f96b448/bc9182a0,bb32186c,3f97ecc8/bd060618,bc89d2aa,3f9b40d8",
		"3951b000,b9a8f500,bac76000/b951b800,39b60600,3b3de000/b951c000,ba151320,bb706000/ba6bf000,3a099800,ba6e0000",
		"3a6fdc9c,ba378000,ba831400/bb102e00,ba59a300,3a831400/3b031200,b9284000,3a831000",
		"3a378200,b9a20147,ba1d4400/3ab57900,baf23897,baf90a00/ba872400,3a60510e,3b031300/39210000,39d2c387,bab77e00/39008800,ba97635e,baebee00/b8e38000,bad19589,3a831400",
		"b7f84000,b889c200,42ccee00/38594000,38bdd000,40638000/b8cef000,b8adc460,3f2e0000/b802c000,b7efb000,404a4000", "",
		"be99999a,3dcccccd,be999998/be89975a,bdcccccd,3dadc5c0", "3e0b3b92,3e381696,bf0a1858/3e0b3b92,3e381696,bf0a1858",
		"80000000,80000000,00000000/00000001,807fffff,bf800000", "3dcccccd,3dcccccd,3f800000", "bd78f690,3bb726b0,00000000/bd78f690,3bb726b0,5dde0b6a",
		"fail", "fail", "00000000,ff7fffff,7f7fffff/00000000,00000000,3f000002/00000000,3f800000,34000000",
		"bd667b20,00000000,5d5e0b6b/00000000,00000000,5f0ac723/00000000,00000000,df0ac723", "398dcc00,00000000,42bcae92/fail",
	)
	wantOfRows(t, "SquareOfMisses", watchings(), func(c watching) string {
		return numberTold(impl.SquareOfMisses(c.orbit, c.mass, c.looks))
	},
		"00000000", "3d3c029c", "40ccef3b", "37b65e9a", "373ebf6d", "37d3ab45", "46243eb8", "00000000", "00000000", "3f2effc9", "40400000", "3f828f5c",
		"5b0e1bc8", "fail", "fail", "fail", "fail", "fail",
	)
	wantOfRows(t, "WorstLook", watchings(), func(c watching) string {
		return worstTold(impl.WorstLook(c.orbit, c.mass, c.looks))
	},
		"0 00000000", "3 3cd698e4", "3 403c7b88", "1 370f8604", "1 36db1706", "1 371605f4", "0 46240c2d", "fail", "0 00000000", "0 3eaeffc9", "1 40400000",
		"0 3f828f5c", "1 5b0e1bc8", "fail", "fail", "1 3e800004", "1 7f167699", "fail",
	)
}

func TestTablesOfSquares(t *testing.T) {
	wantOfRows(t, "SolveSquare", solvings(), func(c solving) string { return numbersTold(impl.SolveSquare(c.a, c.b)) },
		"3fc00000", "beaaaaab", "fail", "fail", "4afffffe", "fail", "00000000", "40000000,3f800000", "c0b66666,3f8ccccd", "c0b66665,3f8ccccd", "fail",
		"80000000,00000000", "bfcf3cf0,404f3cf2,3fdb6db7", "3f44444e,c0911114,40466669", "3f73cf3d,40186186,3eaaaaab", "3ef0ee0c,3e1a9c42,bdfeb52a",
		"3f4dcb6f,bd9ec33c,bda16a3f", "40a00000,40e00000,40c00000", "fail", "bd8b9954,3fb034b6,3f220b85,bdcc12ab",
		"bed9389f,3f813c9b,3f4c3ff1,3f5e3c28,3e862577", "bfbd9a18,3f80e39c,3ef1abf2,bf792441,3f2de8e9,400ff09a", "3f800000,00000000", "fail", "fail",
		"f149f2ca,7149f2ca", "3f7ffffe,00000000", "fail", "fail", "fail",
	)
}

func TestTablesOfSlopes(t *testing.T) {
	wantOfRows(t, "SlopesOfLook", watchings(), func(c watching) string {
		at, speed, _ := impl.StateOf(c.orbit, c.mass)
		return eachTold(c.looks[:min(1, len(c.looks))], func(l impl.Look) string { return numbersTold(impl.SlopesOfLook(at, speed, c.mass, l)) })
	},
		"00000000,00000000,3f800000,3e22f615,00000000,00000000,00000000,3e22f61e,00000000,b5799081,00000000,00000000,00000000,00000000,00000000,00000000,00000000,00000000",
		"3d9336a0,3cedba00,3fad1a60,3d932c00,bc590900,bcb6c000,bd00cb00,3d238440,bf8602e0,bdc6b360,bda9b2c0,bfebd8e0,be304c40,3d156b40,3f043f00,3c88e580,bde1c100,3fc98b20",
		"bca45a00,3a89da00,3ece8200,3c11b200,3b1b8700,3f68fe00,35000000,3cb13a40,bdf48000,3ca48200,ba89f000,bece2600,bc11d200,bb1ba400,bf689200,b5800000,bcb16300,3df41800",
		"00000000,bb2e5600,bf79d800,bc422c00,00000000,00000000,00000000,3c37ce80,be6ce800,00000000,3c02ec00,403b0480,3d11c300,00000000,00000000,00000000,bd0a0020,3f316000",
		"00000000,bd9aff00,3e9e3600,3e83d235,00000000,00000000,00000000,3cc97300,3f737880,00000000,35800000,00000000,b49e0000,00000000,00000000,00000000,35800000,00000000",
		"bd497d00,00000000,bf7377e0,be1afd40,00000000,3e9e3300,00000000,3e22f620,00000000,00000000,00000000,36000000,00000000,00000000,00000000,00000000,00000000,00000000",
		"b6400000,34c00000,3f400000,36000000,34800000,3f200000,b4800000,367c0000,be800000,35e00000,33800000,be800000,35000000,00000000,be000000,35c00000,33800000,00000000",
		"",
		"00000000,00000000,bf800000,bdb51500,00000000,00000000,00000000,3db51400,00000000,b6000000,00000000,00000000,00000000,00000000,b6800000,00000000,00000000,00000000",
		"bd0eb900,3d0d5500,3f4e9500,3da7b000,3c708c00,3eafcf00,b5800000,3d8c2980,bef60300,00000000,00000000,37000000,b5000000,00000000,b7000000,00000000,00000000,00000000",
		"00000000,00000000,3f800000,3e22f615,00000000,00000000,00000000,3e22f61e,00000000,b5799081,00000000,00000000,00000000,00000000,00000000,00000000,00000000,00000000",
		"fail",
		"00000000,00000000,00000000,00000000,00000000,00000000,00000000,00000000,00000000,00000000,00000000,00000000,00000000,00000000,00000000,00000000,00000000,00000000",
		"fail", "fail",
		"00000000,00000000,00000000,00000000,00000000,00000000,00000000,00000000,00000000,00000000,00000000,00000000,00000000,00000000,00000000,00000000,00000000,00000000",
		"bd6a9200,00000000,00000000,bd4a6800,00000000,00000000,00000000,3d98e449,00000000,bd791500,00000000,00000000,bd48dc00,00000000,00000000,00000000,3d9f98f0,00000000",
		"fail",
	)
}

func TestTablesOfFits(t *testing.T) {
	wantOfRows(t, "FitStep", watchings(), func(c watching) string {
		at, speed, _ := impl.StateOf(c.orbit, c.mass)
		return twoVectorsTold(impl.FitStep(at, speed, c.mass, c.looks))
	},
		"3f800000,00000000,00000000 00000000,3f800000,00000000", "3fcda97c,3f44909c,bf7c5ca7 be885c4a,3f1b51c2,3ea56696",
		"4075bac6,40d1f57b,bf9b3212 bf064f27,bf2486b8,3e679420", "c166ce69,3b99355c,c04411d5 bea943d3,3baec5ac,3d16dc90",
		"3f1d8de0,3bb50ba0,3ff374de bf2bc3e8,bb8ac9fc,3e60a566", "bf734023,3e9dec2b,ba72b049 be9e43af,bf7498d0,bc1155d2",
		"47021ecd,46c5cd16,c59c5192 bfed3408,401e87d9,3e64ac38", "3fe66666,00000000,00000000 00000000,3f481fd9,00000000",
		"bfe66666,00000000,00000000 00000000,bf481fd9,00000000", "3fd0b8b5,4016aebf,3fa6525e be424b9f,3ef12db4,3e728c62",
		"3e800006,00000000,8196cea9 00000000,3f800000,00000000", "fail", "dc893b2c,5d2ad883,5cf840df d082b653,cf897061,cf47b5e6", "fail", "fail",
		"bf45c5ff,40182b3f,022b04ad bf2c28fd,be5fc092,00000000", "bf30f594,400828a8,00000000 be39784e,3e361eda,00000000", "fail",
	)
	wantOfRows(t, "FitOrbit", watchings(), func(c watching) string {
		return fitTold(impl.FitOrbit(c.orbit, c.mass, c.looks, c.rounds))
	},
		"3f800000,00000000,00000000,00000000,00000000,00000000 00000000", "3fbffb28,3eccb616,3dd6de9c,3e508a37,3e9a79b3,3f192d41 3a887864,3999e23c,399821f9",
		"bfc69f30,3fa0a894,3df96f6a,3e42fa5a,3eab6aa9,bf107dff 3cee29e8,39be16d4", "422033a6,3f7842e7,3e83e256,3eff24e5,3f0cee6f,3ca3aaa2 3790a316,378ee5d5",
		"3ffee80e,3ba0fbd4,3e7fdf8f,3a885c9c,3f4e9b67,3ec8c5ad 362d1d1c,362d00a4",
		"3f80d5be,3bf6dfe7,3abb4f6d,3f6f2b1d,3f098868,3f7a97b1 37901393,37900fe8,37900fac,37900ff0",
		"472775f3,3c8bec33,3cb4e3bb,3e88b6c3,3f593b8d,3f7cd3d9 40bddb19,3dab68b7",
		"3fffffff,3dccccc8,00000000,00000000,00000000,00000000 00000000,00000000,00000000,00000000,00000000,00000000,00000000,00000000",
		"3fffffff,3dccccc8,00000000,00000000,3f000000,00000000 00000000,00000000", "4046ca92,3f20e443,3d9d043f,3f7c8172,3f508dcf,3e1cd5d3 40ad60af",
		"3e12492c,3f3ffffd,0140037e,3e800000,3e800000,3f000000 3f400000", "fail", "5d5e0b6a,33239a84,3dcccccd,00000000,00000000,3e99999a 63800047", "fail",
		"fail", "fail", "fail", "fail",
	)
}

func TestTablesOfStoredEntries(t *testing.T) {
	wantOfRows(t, "StoreEntry", storings(), func(e impl.Entry) string { return bytesTold(impl.StoreEntry(e)) },
		"4f524231046d6f6f6e0000803f0000803f00000000000000000000000000000000000000000bda",
		"4f5242310161cdcccc3d0000c03fcdcccc3ecdcccc3dcdcc4c3e9a99993e9a99193f5d11",
		"4f524231087a7a7a7a7a7a7a7affff7f7f0000c0bf3333b33fcdcccc3dcdcc4c3e9a99993e9a9919bf7d17",
		"4f52423108616263646566676801000000ffff7f0000000080000080000100000000000080a4707d3f2e90",
		"4f52423102696f0000803fffff7fffffff7f7f0000003fffff7f3f00000000000080c1ea1f", "fail", "fail", "fail", "fail",
	)
}
