package tests

import (
	"fmt"
	"reflect"
	"testing"

	"loop.example/g01284/impl"
)

// aDesk has parts that differ from those of a new desk.
func aDesk() impl.Desk {
	return impl.Desk{
		Bodies:  systems()[1],
		Ball:    aBall(),
		Orbit:   anEllipse(),
		Share:   0.3,
		Ship:    shipOf(0.7, -0.7, 0.3, -0.9),
		Entries: namedList("a", "moon", "sun"),
	}
}

// desks has lists of no, of some and of the most bodies and entries, orbits of
// all kinds, ships at masses, and numbers for which functions fail.
func desks() []impl.Desk {
	least, most, less := number(leastBits), number(mostBits), number(minusZero)
	lists := append(systems(), nil, row(1), row(impl.MaxBodies), []impl.Body{massAt(0, 0, 0, most), massAt(0, 1, 0, most)})
	balls := append(ordinaryBalls(), ballOf(least, most, less, -most), ballOf(most, least, 0, less), ballOf(1, 1, 1e30, 0))
	list := []impl.Desk{impl.NewDesk(), aDesk()}
	for i, o := range orbits() {
		c := scenes()[i+3]
		list = append(list, impl.Desk{
			Bodies:  lists[i%len(lists)],
			Ball:    balls[i%len(balls)],
			Orbit:   o,
			Share:   c.share,
			Ship:    c.ship,
			Entries: catalogOf(i + 1),
		})
	}
	return list
}

// wrongDesks has desks of which one part is not valid.
func wrongDesks() []impl.Desk {
	wrong := []impl.Desk{{}}
	add := func(change func(*impl.Desk)) {
		d := aDesk()
		change(&d)
		wrong = append(wrong, d)
	}
	for _, list := range wrongBodies() {
		add(func(d *impl.Desk) { d.Bodies = list })
	}
	for _, b := range wrongBalls() {
		add(func(d *impl.Desk) { d.Ball = b })
	}
	for _, o := range wrongOrbits() {
		add(func(d *impl.Desk) { d.Orbit = o })
	}
	for _, share := range wrongShares() {
		add(func(d *impl.Desk) { d.Share = share })
	}
	for _, s := range wrongShips() {
		add(func(d *impl.Desk) { d.Ship = s })
	}
	for _, list := range wrongEntryLists() {
		add(func(d *impl.Desk) { d.Entries = list })
	}
	return wrong
}

// deskText tells a desk to the last bit.
func deskText(d impl.Desk) string { return textOf(reflect.ValueOf(d)) }

func deskTold(d impl.Desk, output any, ok bool) string {
	return toldOr(fmt.Sprint(deskText(d), " ", output), ok)
}

func copyOfDesk(d impl.Desk) impl.Desk {
	return copyOf(reflect.ValueOf(d), 0, nanBits).Interface().(impl.Desk)
}

func commandTold(d impl.Desk, line string) string {
	next, output, ok := impl.DeskCommand(d, line)
	return deskTold(next, output, ok)
}

func scriptTold(d impl.Desk, script string) string {
	next, outputs, ok := impl.RunDesk(d, script)
	return deskTold(next, outputs, ok)
}

func outputOf(d impl.Desk, line string) string {
	_, output, ok := impl.DeskCommand(d, line)
	return toldOr(output, ok)
}

func TestExamplesOfChapter8(t *testing.T) {
	d := impl.NewDesk()
	want(t, "mass", outputOf(d, "mass"), "3f800000")
	want(t, "share", outputOf(d, "share"), "3f000000")
	want(t, "near", outputOf(d, "near"), "3f800000")
	want(t, "all of them", scriptTold(d, "mass\nshare\nnear\n"), deskTold(d, "3f800000\n3f000000\n3f800000\n", true))
}

func TestLimitsOfChapter8(t *testing.T) {
	want(t, "MaxScript", impl.MaxScript, 16000)
}

func TestNewDesk(t *testing.T) {
	told := impl.Desk{
		Bodies: []impl.Body{
			bodyOf(vectorOf(-0.5, 0, 0), vectorOf(0, -0.5, 0), 0.5),
			bodyOf(vectorOf(0.5, 0, 0), vectorOf(0, 0.5, 0), 0.5),
		},
		Ball:  ballOf(1, 0.5, 0, 0),
		Orbit: impl.Orbit{Long: 1},
		Share: 0.5,
		Ship:  shipOf(0, 2, 0, 0),
	}
	want(t, "a new desk", deskText(impl.NewDesk()), deskText(told))
	want(t, "it is valid", impl.ValidDesk(impl.NewDesk()), true)
	d := impl.NewDesk()
	d.Bodies[0].Mass = 7
	want(t, "the next new desk", deskText(impl.NewDesk()), deskText(told))
}

func TestValidDesk(t *testing.T) {
	for i, d := range desks() {
		want(t, fmt.Sprint("desk ", i), impl.ValidDesk(d), true)
	}
	for i, d := range wrongDesks() {
		want(t, fmt.Sprint("wrong desk ", i), impl.ValidDesk(d), false)
	}
	d := aDesk()
	d.Bodies, d.Entries = row(impl.MaxBodies), catalogOf(impl.MaxEntries)
	want(t, "the most bodies and entries", impl.ValidDesk(d), true)
	d.Bodies, d.Entries = nil, nil
	want(t, "no bodies and entries", impl.ValidDesk(d), true)
	for _, share := range []float32{number(leastBits), 0.01215, 0.5} {
		d.Share = share
		want(t, fmt.Sprint("the share ", share), impl.ValidDesk(d), true)
	}
}

// numbersOfDesk points to the numbers of a desk that are no complex ones.
func numbersOfDesk(d *impl.Desk) []*float32 {
	list := append(fieldsOf(&d.Orbit), &d.Share, &d.Ball.Mass, &d.Ball.Radius, &d.Ball.Spin, &d.Ball.Start)
	for i := range d.Bodies {
		b := &d.Bodies[i]
		list = append(list, &b.At.X, &b.At.Y, &b.At.Z, &b.Speed.X, &b.Speed.Y, &b.Speed.Z, &b.Mass)
	}
	for i := range d.Entries {
		e := &d.Entries[i]
		list = append(append(list, fieldsOf(&e.Orbit)...), &e.Mass)
	}
	return list
}

func TestSameDesk(t *testing.T) {
	numbers := []float32{0, number(minusZero), 1, number(leastBits), number(nanBits), number(0xffc00001), number(lessInf)}
	d := aDesk()
	for place := range numbersOfDesk(&d) {
		for _, x := range numbers {
			for _, y := range numbers {
				a, b := copyOfDesk(d), copyOfDesk(d)
				*numbersOfDesk(&a)[place], *numbersOfDesk(&b)[place] = x, y
				want(t, fmt.Sprint("number ", place, ", ", x, " and ", y), impl.SameDesk(a, b), bitsOf(x) == bitsOf(y))
			}
		}
	}
	for part := range 4 {
		for _, x := range numbers {
			for _, y := range numbers {
				parts, others := [4]float32{1, 2, 3, 4}, [4]float32{1, 2, 3, 4}
				parts[part], others[part] = x, y
				a, b := aDesk(), aDesk()
				a.Ship = shipOf(parts[0], parts[1], parts[2], parts[3])
				b.Ship = shipOf(others[0], others[1], others[2], others[3])
				want(t, fmt.Sprint("part ", part, " of a ship, ", x, " and ", y), impl.SameDesk(a, b), bitsOf(x) == bitsOf(y))
			}
		}
	}
}

func TestSameDeskLooksAtLists(t *testing.T) {
	all := append(desks(), wrongDesks()[:3]...)
	for i, a := range all {
		for k, b := range all {
			want(t, fmt.Sprint("desks ", i, " and ", k), impl.SameDesk(a, copyOfDesk(b)), deskText(a) == deskText(b))
		}
	}
	for i, change := range []func(*impl.Desk){
		func(d *impl.Desk) { d.Bodies = d.Bodies[:2] },
		func(d *impl.Desk) { d.Bodies = append(d.Bodies, massAt(1, 2, 3, 0)) },
		func(d *impl.Desk) { d.Bodies[0], d.Bodies[1] = d.Bodies[1], d.Bodies[0] },
		func(d *impl.Desk) { d.Entries = d.Entries[:2] },
		func(d *impl.Desk) { d.Entries = append(d.Entries, anEntry()) },
		func(d *impl.Desk) { d.Entries[0], d.Entries[1] = d.Entries[1], d.Entries[0] },
		func(d *impl.Desk) { d.Entries[1].Name = "moo" },
		func(d *impl.Desk) { d.Entries[1].Name = "" },
	} {
		a, b := aDesk(), aDesk()
		change(&b)
		want(t, fmt.Sprint("a changed list ", i), impl.SameDesk(a, b) || impl.SameDesk(b, a), false)
		change(&a)
		want(t, fmt.Sprint("both changed ", i), impl.SameDesk(a, b), true)
	}
	empty := impl.NewDesk()
	empty.Entries = []impl.Entry{}
	want(t, "nil and empty", impl.SameDesk(impl.NewDesk(), empty), true)
}
