package tests

import (
	"fmt"
	"regexp"
	"slices"
	"strconv"
	"strings"
	"testing"

	"loop.example/g01284/impl"
)

// written has texts of a part of a desk, of valid ones and of others. For any
// text, read tells what the package reads, and expected what it should.
type written struct {
	name           string
	texts          []string
	read, expected func(string) string
}

// hexes is the pattern of count numbers.
func hexes(count int) string {
	return "[0-9a-f]{8}" + strings.Repeat(",[0-9a-f]{8}", count-1)
}

// listOf is the pattern of one to 16 items, where bodies and entries end.
func listOf(item string) string { return "^(?:" + item + ")(?:/(?:" + item + ")){0,15}$" }

var (
	bodyForm    = hexes(3) + ":" + hexes(3) + ":" + hexes(1)
	entryForm   = "[a-z]{1,8}:" + hexes(7)
	bodiesForm  = regexp.MustCompile(listOf(bodyForm))
	entriesForm = regexp.MustCompile(listOf(entryForm))
	ballForm    = regexp.MustCompile("^" + hexes(4) + "$")
	orbitForm   = regexp.MustCompile("^" + hexes(6) + "$")
	shipForm    = regexp.MustCompile("^[0-9a-f]{16},[0-9a-f]{16}$")
	anyNumber   = regexp.MustCompile("[0-9a-f]{8}")
)

// numbersIn reads all numbers of a text.
func numbersIn(s string) []float32 {
	var list []float32
	for _, digits := range anyNumber.FindAllString(s, -1) {
		bits, err := strconv.ParseUint(digits, 16, 32)
		if err != nil {
			panic(err)
		}
		list = append(list, number(uint32(bits)))
	}
	return list
}

func orbitFrom(n []float32) impl.Orbit {
	return impl.Orbit{Long: n[0], Round: n[1], Tilt: n[2], Node: n[3], Peri: n[4], Phase: n[5]}
}

// The next functions read texts in another way than the package does. No part
// that is valid has a not-a-number, so that they need not look for these.

func bodiesIn(s string) ([]impl.Body, bool) {
	if s != "none" && !bodiesForm.MatchString(s) {
		return nil, false
	}
	var list []impl.Body
	for n := numbersIn(s); len(n) > 0; n = n[7:] {
		list = append(list, bodyOf(threeOf(n), threeOf(n[3:]), n[6]))
	}
	return list, impl.AreBodies(list)
}

func ballIn(s string) (impl.Ball, bool) {
	if !ballForm.MatchString(s) {
		return impl.Ball{}, false
	}
	n := numbersIn(s)
	b := ballOf(n[0], n[1], n[2], n[3])
	return b, impl.ValidBall(b)
}

func orbitIn(s string) (impl.Orbit, bool) {
	if !orbitForm.MatchString(s) {
		return impl.Orbit{}, false
	}
	o := orbitFrom(numbersIn(s))
	return o, impl.ValidOrbit(o)
}

func shipIn(s string) (impl.Ship, bool) {
	if !shipForm.MatchString(s) {
		return impl.Ship{}, false
	}
	n := numbersIn(s)
	ship := shipOf(n[0], n[1], n[2], n[3])
	return ship, impl.ValidShip(ship)
}

func entriesIn(s string) ([]impl.Entry, bool) {
	if s != "none" && !entriesForm.MatchString(s) {
		return nil, false
	}
	var list []impl.Entry
	for _, item := range regexp.MustCompile("([a-z]+):([^/]+)").FindAllStringSubmatch(s, -1) {
		n := numbersIn(item[2])
		list = append(list, entryOf(item[1], n[0], orbitFrom(n[1:])))
	}
	return list, impl.AreEntries(list)
}

func ballText(b impl.Ball) string {
	return numberText(b.Mass) + "," + numberText(b.Radius) + "," + numberText(b.Spin) + "," + numberText(b.Start)
}

func ballTold(b impl.Ball, ok bool) string { return toldOr(ballText(b), ok) }

// noneOr tells the text of a list that can be empty.
func noneOr(text string) string {
	if text == "" {
		return "none"
	}
	return text
}

// plainEntries has no quotes around the names.
func plainEntries(list []impl.Entry) string {
	var parts []string
	for _, e := range list {
		parts = append(parts, e.Name+":"+numberText(e.Mass)+","+orbitText(e.Orbit))
	}
	return noneOr(strings.Join(parts, "/"))
}

// someBodies has lists of bodies with zeros of both signs, and great and small
// numbers.
func someBodies() [][]impl.Body {
	least, small, norm, most, less := oddOnes()
	list := append(systems(), nil, []impl.Body{}, []impl.Body{{}}, []impl.Body{massAt(less, 0, less, less), massAt(0, less, 0, 0)})
	for count := range impl.MaxBodies + 1 {
		list = append(list, row(count))
	}
	return append(list, []impl.Body{bodyOf(vectorOf(least, -small, norm), vectorOf(most, -most, less), most), bodyOf(vectorOf(1, 2, 3), vectorOf(4, 5, 6), least)})
}

func someBalls() []impl.Ball {
	least, small, norm, most, less := oddOnes()
	return append(ordinaryBalls(), ballOf(1, 0.5, 0, 0), ballOf(least, most, less, -most), ballOf(norm, small, -least, less))
}

func someShips() []impl.Ship {
	least, small, _, most, less := oddOnes()
	list := []impl.Ship{{}, shipOf(0, 2, 0, 0), shipOf(less, 0, 0, less), shipOf(most, -most, least, -small)}
	for _, c := range scenes() {
		list = append(list, c.ship)
	}
	return list
}

func TestTextsOfBodies(t *testing.T) {
	for i, list := range someBodies() {
		what := fmt.Sprint("bodies ", i)
		text, ok := impl.BodiesText(list)
		want(t, what, toldOr(text, ok), noneOr(bodiesText(list)))
		back, ok := impl.ReadBodies(text)
		want(t, what+", read", ok && impl.SameBodies(back, list), true)
	}
	text, _ := impl.BodiesText([]impl.Body{bodyOf(vectorOf(1, -1, 2), vectorOf(number(minusZero), 0, 0.5), 4), massAt(0, 0, 0, 0)})
	want(t, "two bodies", text, "3f800000,bf800000,40000000:80000000,00000000,3f000000:40800000/00000000,00000000,00000000:00000000,00000000,00000000:00000000")
	wantFailing(t, "BodiesText", impl.BodiesText, []any{row(3)}, 0, wrongBodies())
}

func TestTextsOfBalls(t *testing.T) {
	for _, b := range someBalls() {
		text, ok := impl.BallText(b)
		want(t, fmt.Sprint(b), toldOr(text, ok), ballText(b))
		want(t, fmt.Sprint(b, ", read"), ballTold(impl.ReadBall(text)), text)
	}
	text, _ := impl.BallText(ballOf(1, 2, number(minusZero), 0.5))
	want(t, "a ball", text, "3f800000,40000000,80000000,3f000000")
	wantFailing(t, "BallText", impl.BallText, []any{aBall()}, 0, wrongBalls())
}

func TestTextsOfOrbits(t *testing.T) {
	for _, o := range orbits() {
		text, ok := impl.OrbitText(o)
		want(t, fmt.Sprint(o), toldOr(text, ok), orbitText(o))
		want(t, fmt.Sprint(o, ", read"), orbitTold(impl.ReadOrbit(text)), text)
	}
	text, _ := impl.OrbitText(impl.Orbit{Long: 1, Round: 0.5, Tilt: 0.25, Node: 0.125, Peri: 0.0625, Phase: number(minusZero)})
	want(t, "an orbit", text, "3f800000,3f000000,3e800000,3e000000,3d800000,80000000")
	wantFailing(t, "OrbitText", impl.OrbitText, []any{anEllipse()}, 0, wrongOrbits())
}

func TestTextsOfShips(t *testing.T) {
	for _, s := range someShips() {
		text, ok := impl.ShipText(s)
		want(t, fmt.Sprint(s), toldOr(text, ok), shipText(s))
		want(t, fmt.Sprint(s, ", read"), shipTold(impl.ReadShip(text)), text)
	}
	text, _ := impl.ShipText(shipOf(1, number(minusZero), -2, 0))
	want(t, "a ship", text, "3f80000080000000,c000000000000000")
	wantFailing(t, "ShipText", impl.ShipText, []any{shipOf(1, 2, 3, 4)}, 0, wrongShips())
}

func TestTextsOfEntries(t *testing.T) {
	lists := [][]impl.Entry{nil, {}, namedList("none"), namedList("aaaaaaaa", "bcdef", "none", "z")}
	for count := range impl.MaxEntries + 1 {
		lists = append(lists, catalogOf(count))
	}
	for i, list := range lists {
		what := fmt.Sprint("entries ", i)
		text, ok := impl.EntriesText(list)
		want(t, what, toldOr(text, ok), plainEntries(list))
		back, ok := impl.ReadEntries(text)
		want(t, what+", read", entriesTold(back, ok), entriesText(list))
	}
	text, _ := impl.EntriesText([]impl.Entry{entryOf("a", 2, impl.Orbit{Long: 1}), entryOf("none", 1, impl.Orbit{Long: 4, Phase: 0.5})})
	want(t, "two entries", text, "a:40000000,3f800000,00000000,00000000,00000000,00000000,00000000/none:3f800000,40800000,00000000,00000000,00000000,00000000,3f000000")
	wantFailing(t, "EntriesText", impl.EntriesText, []any{namedList("a", "b")}, 0, wrongEntryLists())
}

// writings has texts of all parts, and how they are read.
func writings() []written {
	var bodies, balls, ways, ships, entries []string
	for _, list := range [][]impl.Body{systems()[0], nil, row(1), row(impl.MaxBodies), {massAt(0, number(minusZero), number(nanBits), 1)}} {
		bodies = append(bodies, noneOr(bodiesText(list)))
	}
	for _, b := range append(someBalls(), wrongBalls()...) {
		balls = append(balls, ballText(b))
	}
	for _, o := range append(orbits(), wrongOrbits()...) {
		ways = append(ways, orbitText(o))
	}
	for _, s := range append(someShips()[:4], wrongShips()...) {
		ships = append(ships, shipText(s))
	}
	for _, list := range [][]impl.Entry{namedList("a", "none", "zzzzzzzz"), nil, namedList("abcdefab"), namedList("b", "a"), namedList("a", "a"), catalogOf(impl.MaxEntries)} {
		entries = append(entries, plainEntries(list))
	}
	return []written{
		{"bodies", bodies, func(s string) string { return bodiesTold(impl.ReadBodies(s)) }, func(s string) string { return bodiesTold(bodiesIn(s)) }},
		{"ball", balls, func(s string) string { return ballTold(impl.ReadBall(s)) }, func(s string) string { return ballTold(ballIn(s)) }},
		{"orbit", ways, func(s string) string { return orbitTold(impl.ReadOrbit(s)) }, func(s string) string { return orbitTold(orbitIn(s)) }},
		{"ship", ships, func(s string) string { return shipTold(impl.ReadShip(s)) }, func(s string) string { return shipTold(shipIn(s)) }},
		{"entries", entries, func(s string) string { return entriesTold(impl.ReadEntries(s)) }, func(s string) string { return entriesTold(entriesIn(s)) }},
	}
}

// bentTexts has a text with one place that is cut out, doubled or changed, and
// what is left and right of each place.
func bentTexts(s string) []string {
	list := []string{s, "", " ", "none", "none,none", "none/none", "none:none:none", "none/" + s, s + "/none", s + "/" + s, s + "," + s, strings.ToUpper(s), " " + s, s + " ", s + "\n"}
	for i := range s {
		list = append(list, s[:i], s[i:], s[:i]+s[i+1:], s[:i]+s[i:i+1]+s[i:])
		for _, sign := range []string{"0", "7", "f", "F", "g", ",", ":", "/", " ", "-", "\x00", "\xff"} {
			list = append(list, s[:i]+sign+s[i+1:], s[:i]+sign+s[i:])
		}
	}
	return list
}

func TestTextsAreReadWhereTheyAreTexts(t *testing.T) {
	for _, w := range writings() {
		for i, s := range w.texts {
			want(t, w.name+" "+s, w.read(s), w.expected(s))
			if i < 4 {
				for _, bent := range bentTexts(s) {
					want(t, fmt.Sprintf("%s %q", w.name, bent), w.read(bent), w.expected(bent))
				}
			}
		}
	}
}

func TestTextsOfNothing(t *testing.T) {
	for _, s := range []string{
		"", "x", "/", ":", ",", "none/", "/none", "none,", "None", "nonenone", "3f800000", "3f800000,3f800000", ":::", ",,,", ",,,,,", "00000000:00000000:00000000",
		strings.Repeat("/", impl.MaxBodies-1), strings.Repeat("none/", 3) + "none", strings.Repeat("3f800000,", 300) + "3f800000", strings.Repeat("x", 3*impl.MaxScript),
	} {
		for _, w := range writings() {
			want(t, fmt.Sprintf("%s %.40q", w.name, s), w.read(s), "fail")
		}
	}
	for _, w := range writings() {
		told := "fail"
		if w.name == "bodies" || w.name == "entries" {
			told = ""
		}
		want(t, "none as "+w.name, w.read("none"), told)
	}
}

// Each piece of these texts can be read.
func TestTextsOfWhatIsNotValid(t *testing.T) {
	most := slices.Repeat([]impl.Body{massAt(1, 2, 3, 1)}, impl.MaxBodies)
	want(t, "the most bodies", bodiesTold(impl.ReadBodies(bodiesText(most))), bodiesText(most))
	for i, list := range wrongBodies() {
		want(t, fmt.Sprint("bodies ", i), bodiesTold(impl.ReadBodies(bodiesText(list))), "fail")
	}
	for _, b := range wrongBalls() {
		want(t, fmt.Sprint(b), ballTold(impl.ReadBall(ballText(b))), "fail")
	}
	for _, o := range wrongOrbits() {
		want(t, fmt.Sprint(o), orbitTold(impl.ReadOrbit(orbitText(o))), "fail")
	}
	for _, s := range wrongShips() {
		want(t, fmt.Sprint(s), shipTold(impl.ReadShip(shipText(s))), "fail")
	}
	for i, list := range wrongEntryLists() {
		want(t, fmt.Sprint("entries ", i), entriesTold(impl.ReadEntries(plainEntries(list))), "fail")
	}
}
