package tests

import (
	"fmt"
	"strings"
	"testing"

	"loop.example/g01284/impl"
)

// The tables below come from another program, as those of chapters 2 to 5 do.

// view has two marks of a ball, a place, and a time.
type view struct {
	ball        impl.Ball
	mark, other impl.Mark
	at          impl.Vector
	time        float32
}

// passing has an orbit that is seen from a mark of a ball, or not, a place for
// the shadow, and a bulge.
type passing struct {
	ball              impl.Ball
	mark              impl.Mark
	orbit             impl.Orbit
	least, from, step float32
	count             int64
	sun, at           impl.Vector
	bulge             float32
}

type covering struct {
	ball        impl.Ball
	at          impl.Vector
	time, least float32
	wide, high  int64
}

type sinking struct {
	ball                          impl.Ball
	long, drag, base, scale, tick float32
	steps                         int64
}

func ballOf(mass, radius, spin, start float32) impl.Ball {
	return impl.Ball{Mass: mass, Radius: radius, Spin: spin, Start: start}
}

func markOf(north, east, high float32) impl.Mark {
	return impl.Mark{North: north, East: east, High: high}
}

// views has marks at both poles and at half a turn, equal and opposite ones,
// such below the ground, at the middle and beyond it, places that are marks or
// lie on the axis, subnormal and great numbers, and numbers that come out not
// finite.
func views() []view {
	least, small, norm, most, less := oddOnes()
	belowHalf := number(0x3effffff)
	return []view{
		{ballOf(1, 1, 0, 0), markOf(0, 0, 0), markOf(0, 0.25, 0), vectorOf(3, 0, 0), 0},
		{ballOf(1, 0.5, 0.25, 0.1), markOf(0.1, 0.2, 0.3), markOf(-0.2, -0.4, 1), vectorOf(1.3, -0.4, 2.2), 1.7},
		{ballOf(2, 1.5, 0.25, 0.1), markOf(0.25, 0.3, 1), markOf(0.25, -0.2, -0.5), vectorOf(0, 0, 3), 0.3},
		{ballOf(2, 1.5, -0.25, 0.1), markOf(-0.25, -0.5, 0.5), markOf(-0.25, 0, 0), vectorOf(less, 0, -2), -2},
		{ballOf(1, 2, 0, 0), markOf(0, -0.5, 0), markOf(0, belowHalf, 2), vectorOf(-2.5, 0, 0), 3},
		{ballOf(1, 2, 0, 0), markOf(0.1, belowHalf, 0), markOf(0.1, -0.5, 0), vectorOf(-2, less, 1), 3},
		{ballOf(3, 2, 0.5, belowHalf), markOf(0.01, belowHalf, -1), markOf(0.02, 0.25, 7), vectorOf(-2, -1e-9, -1), 1},
		{ballOf(1, 1, 0.3, 0), markOf(0.2, 0.1, -2.5), markOf(-0.2, -0.4, 0), vectorOf(0.1, -0.2, 0.3), 4},
		{ballOf(1, 1, 0.3, 0), markOf(0.2, 0.1, -1), markOf(0.2, 0.1, 0), vectorOf(0, 0, 0), 4},
		{ballOf(1, 1, 0, 0), markOf(0, 0, 1), markOf(0, 0, 5), vectorOf(2, 0, 0), 6},
		{ballOf(1, 1, 1, 0), markOf(0.15, -0.35, 0.25), markOf(0.15, -0.34, 0), vectorOf(-0.7, 0.1, 0.9), 2.75},
		{ballOf(least, least, small, norm), markOf(least, -small, least), markOf(-least, norm, small), vectorOf(small, least, norm), small},
		{ballOf(1, 1e-20, 0, 0), markOf(0.05, 0.3, 1e-20), markOf(0, 0, 1e-30), vectorOf(1e-15, 2e-15, 0), 0},
		{ballOf(most, most, 1, 1), markOf(0.1, 0.2, most), markOf(0.1, 0.2, 1), vectorOf(1, 1, 1), 1},
		{ballOf(most, most, 1, 1), markOf(0.1, 0.2, -most), markOf(0, 0, -1), vectorOf(1, 1, 1), 1},
		{ballOf(1, 1, 1e30, 0), markOf(0.1, 0.2, 0), markOf(-0.1, -0.3, 0), vectorOf(1, 1, 1), 1e30},
		{ballOf(1, 6378, 1e10, 0.3), markOf(0.1, 0.2, 35786), markOf(0.1, 0.2, 0), vectorOf(-7000, 1, 0), 1e10},
		{ballOf(1, 1, less, less), markOf(less, less, less), markOf(0, 0, 0), vectorOf(less, less, less), less},
		{ballOf(398600.44, 6378.137, 1.1605763e-05, 0.77), markOf(0.142, -0.21, 0.4), markOf(-0.095, 0.42, 0.01), vectorOf(-20000, 30000, 12345), 86400},
		{ballOf(1, 1, 0.1, 0.9), markOf(0.12, 0.4, 0), markOf(0.12, 0.4, 3), vectorOf(1e25, -1e25, 0), 0.5},
		{ballOf(1, 1e19, 0.1, 0.9), markOf(-0.12, -0.4, 3e19), markOf(0.1200001, -0.4, 3), vectorOf(1e19, -1e19, 5e18), 0.5},
	}
}

func passings() []passing {
	least, small, norm, most, less := oddOnes()
	belowOne := number(oneBits - 1)
	round, tilted := impl.Orbit{Long: 2}, impl.Orbit{Long: 2.5, Round: 0.3, Tilt: 0.15, Node: 0.3, Peri: 0.4, Phase: 0.7}
	return []passing{
		{ballOf(1, 1, 0, 0), markOf(0, 0, 0), round, 0, 0, 1, 4, vectorOf(1, 0, 0), vectorOf(-3, 0.5, 0), 0.001},
		{ballOf(1, 0.8, 0.05, 0.1), markOf(0.1, 0.2, 0), tilted, 0.05, -3, 2, 5, vectorOf(-1, 2, 0.3), vectorOf(0.9, -1.5, 0), 0.001},
		{ballOf(1, 1, 0.25, 0), markOf(0.25, -0.5, 0), impl.Orbit{Long: 2, Tilt: 0.25, Node: 0.25}, -0.05, 0, 4.4428830, 4, vectorOf(0, 0, -3), vectorOf(0, 0, 1), -0.5},
		{ballOf(1, 1, -0.25, 0.5), markOf(-0.25, 0, 0.1), impl.Orbit{Long: 2, Tilt: 0.5, Node: belowOne, Peri: belowOne, Phase: belowOne}, -0.3, 7, -0.7, 6, vectorOf(5, -4, 3), vectorOf(-1, 0.8, 0), 0.02},
		{ballOf(398600.44, 6378.137, 1.1605763e-05, 0.77), markOf(0.142, -0.21, 0.4), impl.Orbit{Long: 6778, Round: 0.001, Tilt: 0.14333333, Node: 0.7, Peri: 0.1, Phase: 0.45}, 0.0277, 900, 60, 6, vectorOf(1.4e8, 2e7, 5e7), vectorOf(-6000, -1500, -3000), 0.00108263},
		{ballOf(398600.44, 6378.137, 1.1605763e-05, 0.77), markOf(0, 0.4, 0), impl.Orbit{Long: 42164, Phase: 0.2}, 0.1, 0, 40000, 5, vectorOf(1.4e8, 2e7, 0), vectorOf(-42000, -6000, 0), 0.00108263},
		{ballOf(2, 0.3, 0.1, 0), markOf(-0.1, 0.3, 0.05), impl.Orbit{Long: -1.5, Round: 1.4, Tilt: 0.1, Node: 0.2, Peri: 0.3, Phase: -0.6}, 0.2, -1, 0.5, 5, vectorOf(0, 1, 0), vectorOf(0.1, -7, 0.1), 0.1},
		{ballOf(1, 1, 0, 0), markOf(0, 0, 1), round, 0.25, 0, 0, 1, vectorOf(0, 0, 0), vectorOf(1, 1, 1), 0},
		{ballOf(1, 1, 0, 0), markOf(0, 0, 0.5), round, 0.25, less, less, 2, vectorOf(2, 0, 0), vectorOf(-2, 1, 0), less},
		{ballOf(1, 1, 0, 0), markOf(0, 0, 0.5), impl.Orbit{Long: 2, Node: less, Peri: less}, -0.25, less, less, 2, vectorOf(2, 0, 0), vectorOf(-2, number(oneBits-1), 0), less},
		{ballOf(least, least, least, small), markOf(least, -least, norm), impl.Orbit{Long: least, Round: 0.4, Tilt: small, Node: least, Peri: small, Phase: least}, least, small, norm, 2, vectorOf(least, small, norm), vectorOf(small, small, small), least},
		{ballOf(1, 1, 0.1, 0), markOf(0.1, 0.1, 0), impl.Orbit{Long: 1e25, Tilt: 0.3}, 0, 1, 1, 2, vectorOf(1, 2, 3), vectorOf(1e25, 1e25, 1e25), most},
		{ballOf(1, 1, 0.1, 0), markOf(0.1, 0.1, 0), tilted, 0, most, most, 2, vectorOf(most, most, most), vectorOf(-0.1, 0.2, 0.3), 1e30},
		{ballOf(1, 1, 0.1, 0), markOf(0.1, 0.1, 0), impl.Orbit{Long: least}, 0, 1, 1, 2, vectorOf(1e-25, 0, 0), vectorOf(1, 0, 0), 1},
		{ballOf(3, 0.4, 0.1, 0.2), markOf(0.1, 0.1, 0), impl.Orbit{Long: 1.1, Round: 0.9, Tilt: 0.17620819, Node: 0.5, Peri: 0.5, Phase: 0.5}, 0, 1, 0.25, 3, vectorOf(-1e-15, 2e-15, 1e-15), vectorOf(0.2, -0.1, -0.5), -3},
	}
}

func coverings() []covering {
	least, small, norm, most, less := oddOnes()
	return []covering{
		{ballOf(1, 1, 0, 0), vectorOf(5, 0, 0), 0, 0, 4, 1},
		{ballOf(1, 1, 0.25, 0.1), vectorOf(3, -2, 1), 0.7, 0.05, 7, 5},
		{ballOf(1, 1, -0.25, 0.1), vectorOf(0, 0, 1.2), 0.7, -0.01, 5, 7},
		{ballOf(1, 1, 0, 0), vectorOf(0.1, 0.2, 0), 0, -0.2, 6, 3},
		{ballOf(1, 1, 0, 0), vectorOf(-4, 2, 1), less, -0.25, 3, 2},
		{ballOf(1, 1, 0, 0), vectorOf(-4, 2, 1), 0, 0.25, 3, 2},
		{ballOf(1, 6378.137, 1.1605763e-05, 0.77), vectorOf(-20000, 30000, 12345), 86400, 0.0138, 16, 16},
		{ballOf(1, 1, 0.5, 0.25), vectorOf(1e18, -1e18, 1e17), 3, 0, 1, 16},
		{ballOf(1, 1, 0.5, 0.25), vectorOf(1e18, -1e18, 1e17), 3, 0, 16, 1},
		{ballOf(1, 1, 0, 0), vectorOf(1e20, 0, 0), 0, 0, 2, 2},
		{ballOf(1, 1, 0, 0), vectorOf(1, 0, 0), 0, 0, 1, 1},
		{ballOf(1, 1, 0, 0), vectorOf(1, 0, 0), 0, 0, 2, 1},
		{ballOf(1, 1e-18, 0, 0), vectorOf(2e-18, 1e-18, 0), 0, 0, 3, 3},
		{ballOf(least, small, norm, least), vectorOf(most, small, norm), least, small, 2, 2},
		{ballOf(most, 1e18, most, 1), vectorOf(1e18, 2e18, less), 0, most, 3, 4},
	}
}

// sinkings has circles that sink to the ball and below it, at once, later and
// not at all, such that are not above it, and masses of air that are none.
func sinkings() []sinking {
	least, small, norm, most, less := oddOnes()
	return []sinking{
		{ballOf(1, 1, 0.15915494, 0), 4, 0.5, 0, 1, 1, 3},
		{ballOf(1, 1, 0.01, 0), 2, 0.5, 0.3, 1, 0.5, 4},
		{ballOf(1, 1, 2, 0), 1.5, 0.5, 1, 1, 0.5, 8},
		{ballOf(4, 1, 0.5, 0), 2, 1, 2, 1e30, 0.5, 8},
		{ballOf(1, 1, 0.5, 0), 4, 0.5, 3, 1e30, 1, 8},
		{ballOf(1, 1, -1, 0), 4, 0.5, 30, 1e30, 1, 8},
		{ballOf(398600.44, 6378.137, 1.1605763e-05, 0.77), 6528, 0.01, 0.01, 22, 3000, 5},
		{ballOf(398600.44, 6378.137, 1.1605763e-05, 0.77), 42164, 0.01, 0.01, 22, 3000, 2},
		{ballOf(1, 1, 0, 0), 1, 0.5, 0.3, 1, 0.5, 4},
		{ballOf(1, 1, less, 0), 0.5, 0.5, 0.3, 0.25, 0.5, 4},
		{ballOf(1, 1, 1, 0), -3, 0.5, 0.3, 0.01, 0.5, 4},
		{ballOf(1, 1, 1, 0), 2, 0.5, 0.3, 1, 0.5, 0},
		{ballOf(1, 1, 1, 0), 2, less, less, 1, less, 2},
		{ballOf(most, 1, least, 0), most, 0.5, 0.3, 1e38, 0.5, 1},
		{ballOf(1, 1, most, 0), 2, most, most, most, most, 2},
		{ballOf(1, 1, 3e19, 0), number(oneBits + 1), 1e-8, 1, 1, 1, 3},
		{ballOf(least, small, norm, 0), norm, least, 1, 1, 1, 2},
		{ballOf(3e38, 1, 1e-10, 0), 1e10, 0.001, 1, least, 1, 2},
		{ballOf(1e-30, 1, 1e18, 0), 3, 0.25, 2, 0.5, 1, 3},
	}
}

func markText(m impl.Mark) string { return vectorText(vectorOf(m.North, m.East, m.High)) }

func markTold(m impl.Mark, ok bool) string { return toldOr(markText(m), ok) }

func trackTold(list []impl.Mark, ok bool) string {
	var parts []string
	for _, m := range list {
		parts = append(parts, markText(m))
	}
	return toldOr(strings.Join(parts, "/"), ok)
}

// seenTold has x for true and . for false.
func seenTold(list []bool, ok bool) string {
	var text strings.Builder
	for _, seen := range list {
		text.WriteByte(map[bool]byte{false: '.', true: 'x'}[seen])
	}
	return toldOr(text.String(), ok)
}

func indicesTold(list []int64, ok bool) string {
	var parts []string
	for _, i := range list {
		parts = append(parts, fmt.Sprint(i))
	}
	return toldOr(strings.Join(parts, ","), ok)
}

func darkTold(dark, ok bool) string { return toldOr(fmt.Sprint(dark), ok) }

func runTold(list []float32, low, ok bool) string {
	return toldOr(fmt.Sprint(numbersTold(list, true), " ", low), ok)
}

func TestTablesOfMarks(t *testing.T) {
	wantOfRows(t, "PlaceOf", views(), func(c view) string {
		return vectorTold(impl.PlaceOf(c.ball, c.mark, c.time))
	},
		"3f800000,00000000,00000000", "bdcf5a49,bf23a596,3ef0c1c0", "00000000,80000000,40200000", "00000000,00000000,c0000000",
		"c0000000,80000000,00000000", "bfcf1bbd,34a2a99b,3f967918", "bf7f7eae,80000000,3d809851", "3e12acd9,bee1b5a5,bfb69a55",
		"80000000,00000000,00000000", "40000000,00000000,00000000", "bf182b4b,3edd1d48,3f817156", "00000002,00000000,00000000",
		"9dde0f1d,1eaadb58,1de97c94", "fail", "00000000,00000000,00000000", "fail", "00000000,00000000,46c19ec1", "3f800000,00000000,80000000",
		"c5670b0d,c4c0363f,459b2b9b", "bedb6159,3f16f9b8,3f2f3e7a", "dfc06d3f,defa17bb,dfbdffff",
	)
	wantOfRows(t, "MarkOf", views(), func(c view) string {
		return markTold(impl.MarkOf(c.ball, c.at, c.time))
	},
		"00000000,00000000,40000000", "3e25c190,3edae048,40058946", "3e800000,be333334,3fc00000", "be800000,3ecccccc,3f000000",
		"00000000,bf000000,3f000000", "3d972029,bf000000,3e71bbd0", "bd972029,bf000000,3e71bbd0", "3e179c70,bec09e60,bf2036ac",
		"00000000,be4cccd0,bf800000", "00000000,00000000,3f800000", "3e1377ca,be8b9010,3e140580", "3e800000,32a2f985,80000001",
		"00000000,3e346fec,27211ffd", "3dc89d7e,3e000000,ff7fffff", "3dc89d7e,3e000000,ff7fffff", "fail", "00000000,00000000,441b8000",
		"00000000,00000000,bf800000", "3d570c0f,bedbba20,46f7e86e", "fail", "3d5d8a0b,bd9999a0,5e8ac722",
	)
}

func TestTablesOfSights(t *testing.T) {
	wantOfRows(t, "ArcBetween", views(), func(c view) string {
		return numberTold(impl.ArcBetween(c.mark, c.other))
	},
		"3e800000", "3ec68237", "00000000", "00000000", "33000000", "32cf1bbd", "3e7eb7a7", "3f000000", "00000000", "00000000", "3bc095ad",
		"00000000", "3e984eb3", "00000000", "3e56d1cc", "3f000000", "00000000", "00000000", "3eca9ca8", "00000000", "3e75c295",
	)
	wantOfRows(t, "RiseAt", views(), func(c view) string {
		return numberTold(impl.RiseAt(c.ball, c.mark, c.at, c.time))
	},
		"3f800000", "3e943c69", "3f800000", "fail", "3f800000", "3efaac8f", "3f239199", "bf7c0f05", "fail", "fail", "bed851a4", "fail",
		"3f2d75e1", "fail", "fail", "fail", "bf765c92", "bf800000", "3e565966", "80000000", "fail",
	)
	wantOfRows(t, "HorizonOf", views(), func(c view) string {
		return numberTold(impl.HorizonOf(c.ball, c.mark.High))
	},
		"00000000", "3e11f87e", "3e172029", "3deb9322", "00000000", "00000000", "fail", "fail", "fail", "3e2aaaab", "3dd1bfae", "00000000",
		"3e2aaaa9", "fail", "fail", "00000000", "3e67409d", "00000000", "3ae99fa7", "00000000", "fail",
	)
}

func TestTablesOfTracks(t *testing.T) {
	wantOfRows(t, "TrackOf", passings(), func(c passing) string {
		return trackTold(impl.TrackOf(c.ball, c.orbit, c.from, c.step, c.count))
	},
		"00000000,00000000,3f800000/00000000,3d667b21,3f7ffffe/00000000,3de67b21,3f800000/00000000,3e2cdc59,3f800000",
		"bd343e4d,3ea24771,40194938/bb9039cc,3e7cb971,400e91b2/3d2aabfc,3e398842,3ff9f19c/3dc5cb91,3e095b72,3fcb6fea/3e16e7b0,3e222d84,3f99d4cc",
		"00000000,3e800000,3f800000/3e800000,bde2c190,3f800000/00000000,bef160c8,3f800000/be7ffffc,bda844c0,3f800000",
		"00000000,be135778,3f800000/00000000,be8f1a8c,3f800000/00000000,bed48964,3f7ffffe/00000000,3ee607cb,3f800000/00000000,3ea098f6,3f800000/00000000,3e365447,3f800000",
		"be0d05cf,bec7bb01,43ca8410/be0fc71f,bebfc083,43ca5c90/be11aa3e,beb77acb,43ca3210/be12a351,beaf0426,43ca0500/be12abdd,bea67bb0,43c9d570/be11c395,be9e0241,43c9a3b0",
		"00000000,3edc28f6,470bc9dd/00000000,3edc2954,470bc9dd/00000000,3edc29b0,470bc9dd/00000000,3edc2a10,470bc9dd/00000000,3edc2a68,470bc9dd",
		"bcf8d672,3e83aa98,410a798a/bcf06289,3e55b196,40ffbb46/bce66d80,3e245294,40ea5219/bcda817b,3de6991a,40d4af90/bccbf182,3d857a6d,40bec97f",
		"00000000,00000000,3f800000", "00000000,00000000,3f800000/00000000,00000000,3f800000",
		"00000000,00000000,3f800000/00000000,00000000,3f800000", "00000000,3ec00000,80000001/00000000,bec00000,80000001", "fail", "fail",
		"00000000,bdcccccd,bf800000/00000000,be4ccccd,bf800000",
		"3cec087b,3e5bbc7c,3faeb39a/3d1f51fd,3e479304,3f9519b5/3d570935,3e35a308,3f65bcb4",
	)
	wantOfRows(t, "SeenFrom", passings(), func(c passing) string {
		return seenTold(impl.SeenFrom(c.ball, c.mark, c.orbit, c.least, c.from, c.step, c.count))
	},
		"xxx.", ".xxxx", ".x..", "xxxxxx", "......", "xxxxx", ".....", "fail", "xx", "xx", "fail", "xx", "fail", "..", "xxx",
	)
}

func TestTablesOfShadows(t *testing.T) {
	wantOfRows(t, "InShadow", passings(), func(c passing) string {
		return darkTold(impl.InShadow(c.ball, c.sun, c.at))
	},
		"true", "true", "true", "true", "true", "true", "true", "fail", "false", "true", "fail", "fail", "fail", "fail", "false",
	)
	wantOfRows(t, "ShadowShare", passings(), func(c passing) string {
		return numberTold(impl.ShadowShare(c.ball, c.orbit, c.sun, 13))
	},
		"3e1d89d9", "3d9d89d9", "3e1d89d9", "3d9d89d9", "3e9d89d9", "3d9d89d9", "fail", "fail", "3e1d89d9", "3e1d89d9", "fail", "fail",
		"fail", "fail", "3d9d89d9",
	)
}

func TestTablesOfDrifts(t *testing.T) {
	wantOfRows(t, "DriftsOf", passings(), func(c passing) string {
		return twoTold(impl.DriftsOf(c.ball, c.orbit, c.bulge))
	},
		"b7b10267,38310267", "b6934b70,36364ba8", "80000000,3bacdc59", "39dd4300,3a5d4300", "b42cb2cb,3401299f", "afed1833,306d1833", "fail",
		"80000000,00000000", "00000000,80000000", "00000000,80000000", "fail", "00000000,80000000", "edb14cad,6d5b6e25", "fail",
		"3fe17402,34bd0c59",
	)
	wantOfRows(t, "DriftOrbit", passings(), func(c passing) string {
		return orbitTold(impl.DriftOrbit(c.ball, c.orbit, c.bulge, c.from))
	},
		"40000000,00000000,00000000,00000000,00000000,00000000", "40200000,3e99999a,3e19999a,3e999b54,3ecccbbc,3f144719",
		"40000000,00000000,3e800000,3e800000,00000000,00000000", "40000000,00000000,3f000000,3b419a00,3bc19a00,3ec9abbb",
		"45d3d000,3a83126f,3e12c5f9,3f3329b6,3dcd0590,3f1cb00c", "4724b400,00000000,00000000,00000000,00000000,3e4ccccd", "fail",
		"40000000,00000000,00000000,00000000,00000000,00000000", "40000000,00000000,00000000,00000000,00000000,00000000",
		"40000000,00000000,00000000,80000000,00000000,00000000", "fail", "69045951,00000000,3e99999a,00000000,00000000,0036cdbd", "fail", "fail",
		"3f8ccccd,3f666666,3e346feb,3e85d008,3f000006,3f3d2b46",
	)
}

func TestTablesOfCovers(t *testing.T) {
	wantOfRows(t, "CoverOf", coverings(), func(c covering) string {
		return seenTold(impl.CoverOf(c.ball, c.at, c.time, c.least, c.wide, c.high))
	},
		".xx.", ".......x......xx.....xx............", "..............................xxxxx", "..................", "xxxxxx", "......",
		"................................................xxx.............xxx............xxxxx..........xxxxxx..........xxxxxx..........xxxxxxx.........xxxxxxx.........xxxxxxx........xxxxxxxx........xxxxxxxx........xxxxxxxx........xxxxxxxxx.......xxxxxxxxxx....xxxxx",
		".xxxxxxxxxxxxxxx", "......xxxxxxxx..", "xxxx", "fail", "..", ".x..x..x.", "fail", ".....x..x...",
	)
}

func TestTablesOfAir(t *testing.T) {
	wantOfRows(t, "StillLong", sinkings(), func(c sinking) string {
		return numberTold(impl.StillLong(c.ball))
	},
		"3f800000", "40ca78a5", "3e3d7311", "3f3d7310", "3eeeb0fd", "fail", "4724b42e", "4724b42e", "fail", "fail", "3e965dbb", "3e965dbb",
		"3e965dbb", "fail", "00000000", "00000000", "fail", "fail", "00000000",
	)
	wantOfRows(t, "ThinAt", sinkings(), func(c sinking) string {
		return numberTold(impl.ThinAt(c.ball, c.base, c.scale, c.long-c.ball.Radius))
	},
		"00000000", "3de20670", "3f1b4598", "40000000", "40400000", "41f00000", "3738a446", "00000000", "3e99999a", "400ddeb1", "fail",
		"3de20670", "80000000", "3c2392e2", "7f7fffff", "3f7ffffe", "3f800000", "00000000", "3d160aae",
	)
}

func TestTablesOfSinking(t *testing.T) {
	wantOfRows(t, "SinkLong", sinkings(), func(c sinking) string {
		return numberTold(impl.SinkLong(c.ball, c.long, c.drag, c.base, c.scale, c.tick))
	},
		"40800000", "3ffb0169", "3fa83a9c", "bf5413cc", "3f800000", "c1d00000", "45cb7944", "4724b400", "fail", "fail", "fail", "3ffb0169",
		"40000000", "fail", "fail", "3f800001", "00800000", "fail", "40400000",
	)
	wantOfRows(t, "SinkRun", sinkings(), func(c sinking) string {
		return runTold(impl.SinkRun(c.ball, c.long, c.drag, c.base, c.scale, c.tick, c.steps))
	},
		"40800000,40800000,40800000 false", "3ffb0169,3ff5dcfa,3ff090b0,3feb1a66 false", "3fa83a9c,3f8d6fea,3f5e4da0 true", "bf5413cc true",
		"3f800000 true", "c1d00000 true", "45cb7944,45ca57f1,45c482c6 true", "4724b400,4724b400 false", "fail", "fail", "fail", " false",
		"40000000,40000000 false", "fail", "fail", "3f800001,3f800001,3f800001 false", "00800000,00800000 false", "fail",
		"40400000,40400000,40400000 false",
	)
}
