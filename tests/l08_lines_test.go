package tests

import (
	"fmt"
	"reflect"
	"regexp"
	"strconv"
	"strings"
	"testing"

	"loop.example/g01284/impl"
)

// form is a line of the table of chapter 8: its pattern, words with which it
// succeeds at aDesk, and the desk and the output that the other chapters tell.
type form struct {
	name    string
	words   []string
	pattern *regexp.Regexp
	tell    func(d impl.Desk, words []string) (impl.Desk, string, bool)
}

func formOf(name string, words []string, tell func(d impl.Desk, words []string) (impl.Desk, string, bool)) form {
	pattern := "^" + name + strings.Repeat(" ([^ ]*)", len(words)) + "$"
	return form{name: name, words: words, pattern: regexp.MustCompile(pattern), tell: tell}
}

// showing is a line of one word that changes nothing.
func showing(name string, tell func(d impl.Desk) (string, bool)) form {
	return formOf(name, nil, func(d impl.Desk, _ []string) (impl.Desk, string, bool) {
		output, ok := tell(d)
		return d, output, ok
	})
}

// putting is a line with the text of a part, which put reads.
func putting(name, text string, put func(d *impl.Desk, text string) bool) form {
	return formOf(name, []string{text}, func(d impl.Desk, words []string) (impl.Desk, string, bool) {
		ok := put(&d, words[0])
		return d, "ok", ok
	})
}

func numberIn(s string) (float32, bool) {
	if !regexp.MustCompile("^[0-9a-f]{8}$").MatchString(s) {
		return 0, false
	}
	x := numbersIn(s)[0]
	return x, x == x
}

func integerIn(s string) (int64, bool) {
	if !regexp.MustCompile("^(0|-?[1-9][0-9]{0,15})$").MatchString(s) {
		return 0, false
	}
	n, err := strconv.ParseInt(s, 10, 64)
	return n, err == nil && n >= -impl.MaxValue && n <= impl.MaxValue
}

func twoNumbersIn(words []string) (float32, float32, bool) {
	x, ok := numberIn(words[0])
	y, fits := numberIn(words[1])
	return x, y, ok && fits
}

// partForms has the lines that put and show the parts of a desk.
func partForms() []form {
	return []form{
		putting("bodies", bodiesText(systems()[2]), func(d *impl.Desk, text string) (ok bool) { d.Bodies, ok = bodiesIn(text); return }),
		putting("ball", ballText(ballOf(2, 3, -1, 0.5)), func(d *impl.Desk, text string) (ok bool) { d.Ball, ok = ballIn(text); return }),
		putting("orbit", orbitText(aBranch()), func(d *impl.Desk, text string) (ok bool) { d.Orbit, ok = orbitIn(text); return }),
		putting("ship", shipText(shipOf(1, 2, 3, 4)), func(d *impl.Desk, text string) (ok bool) { d.Ship, ok = shipIn(text); return }),
		putting("entries", plainEntries(namedList("b", "none")), func(d *impl.Desk, text string) (ok bool) { d.Entries, ok = entriesIn(text); return }),
		putting("share", numberText(0.25), func(d *impl.Desk, text string) (ok bool) { d.Share, ok = numberIn(text); return }),
		showing("bodies", func(d impl.Desk) (string, bool) { return noneOr(bodiesText(d.Bodies)), true }),
		showing("ball", func(d impl.Desk) (string, bool) { return ballText(d.Ball), true }),
		showing("orbit", func(d impl.Desk) (string, bool) { return orbitText(d.Orbit), true }),
		showing("ship", func(d impl.Desk) (string, bool) { return shipText(d.Ship), true }),
		showing("entries", func(d impl.Desk) (string, bool) { return plainEntries(d.Entries), true }),
		showing("share", func(d impl.Desk) (string, bool) { return numberText(d.Share), true }),
	}
}

func toldNumber(x float32, ok bool) (string, bool) { return numberText(x), ok }

// showForms has lines of one word that tell what functions tell.
func showForms() []form {
	return []form{
		showing("mass", func(d impl.Desk) (string, bool) { return toldNumber(impl.MassOfBodies(d.Bodies)) }),
		showing("nearest", func(d impl.Desk) (string, bool) {
			i, k, distance, ok := impl.NearestBodies(d.Bodies)
			return fmt.Sprintf("%d %d %s", i, k, numberText(distance)), ok
		}),
		showing("state", func(d impl.Desk) (string, bool) {
			at, speed, ok := impl.StateOf(d.Orbit, d.Ball.Mass)
			return vectorText(at) + " " + vectorText(speed), ok
		}),
		showing("period", func(d impl.Desk) (string, bool) { return toldNumber(impl.PeriodOf(d.Orbit, d.Ball.Mass)) }),
		showing("near", func(d impl.Desk) (string, bool) { return toldNumber(impl.NearOf(d.Orbit)) }),
		showing("far", func(d impl.Desk) (string, bool) { return toldNumber(impl.FarOf(d.Orbit)) }),
		showing("points", func(d impl.Desk) (string, bool) {
			points, ok := impl.PointsOf(d.Share)
			return pointsText(points), ok
		}),
		showing("constant", func(d impl.Desk) (string, bool) { return toldNumber(impl.ConstantOf(d.Share, d.Ship)) }),
	}
}

// askForms has lines of more words that tell what functions tell.
func askForms() []form {
	return []form{
		formOf("energy", []string{"3dcccccd"}, func(d impl.Desk, words []string) (impl.Desk, string, bool) {
			core, isNumber := numberIn(words[0])
			energy, ok := impl.EnergyOfBodies(d.Bodies, core)
			return d, numberText(energy), ok && isNumber
		}),
		formOf("hop", []string{"3f800000", "40800000"}, func(d impl.Desk, words []string) (impl.Desk, string, bool) {
			from, to, areNumbers := twoNumbersIn(words)
			first, second, time, ok := impl.TwoBurns(d.Ball.Mass, from, to)
			return d, vectorText(vectorOf(first, second, time)), ok && areNumbers
		}),
		formOf("track", []string{"3f000000", "3e800000", "3"}, func(d impl.Desk, words []string) (impl.Desk, string, bool) {
			from, step, areNumbers := twoNumbersIn(words)
			count, isInteger := integerIn(words[2])
			marks, ok := impl.TrackOf(d.Ball, d.Orbit, from, step, count)
			return d, strings.ReplaceAll(eachTold(marks, markText), "/", ","), ok && areNumbers && isInteger
		}),
	}
}

// changeForms has the other lines.
func changeForms() []form {
	return []form{
		formOf("run", []string{"3dcccccd", "3c23d70a", "2"}, func(d impl.Desk, words []string) (impl.Desk, string, bool) {
			core, tick, areNumbers := twoNumbersIn(words)
			steps, isInteger := integerIn(words[2])
			list, ok := impl.RunBodies(d.Bodies, core, tick, steps)
			d.Bodies = list
			return d, "ok", ok && areNumbers && isInteger
		}),
		formOf("later", []string{"3f000000"}, func(d impl.Desk, words []string) (impl.Desk, string, bool) {
			time, isNumber := numberIn(words[0])
			o, ok := impl.LaterOrbit(d.Orbit, d.Ball.Mass, time)
			d.Orbit = o
			return d, "ok", ok && isNumber
		}),
		formOf("fly", []string{"3c23d70a", "3"}, func(d impl.Desk, words []string) (impl.Desk, string, bool) {
			tick, isNumber := numberIn(words[0])
			steps, isInteger := integerIn(words[1])
			ship, ok := impl.RunShip(d.Share, d.Ship, tick, steps)
			d.Ship = ship
			return d, "ok", ok && isNumber && isInteger
		}),
		formOf("keep", []string{"moo"}, func(d impl.Desk, words []string) (impl.Desk, string, bool) {
			list, ok := impl.PutEntry(d.Entries, entryOf(words[0], d.Ball.Mass, d.Orbit))
			d.Entries = list
			return d, "ok", ok
		}),
		formOf("take", []string{"moon"}, func(d impl.Desk, words []string) (impl.Desk, string, bool) {
			i, ok := impl.FindEntry(d.Entries, words[0])
			if ok {
				d.Orbit = d.Entries[i].Orbit
			}
			return d, "ok", ok
		}),
		formOf("drop", []string{"moon"}, func(d impl.Desk, words []string) (impl.Desk, string, bool) {
			list, ok := impl.DropEntry(d.Entries, words[0])
			d.Entries = list
			return d, "ok", ok
		}),
	}
}

func forms() []form {
	return append(append(append(partForms(), showForms()...), askForms()...), changeForms()...)
}

func (f form) line() string { return strings.Join(append([]string{f.name}, f.words...), " ") }

// with puts a word in place of another one.
func (f form) with(place int, word string) string {
	words := append([]string{f.name}, f.words...)
	words[place+1] = word
	return strings.Join(words, " ")
}

// expectedOf tells what a line makes of a desk.
func expectedOf(all []form, d impl.Desk, line string) (impl.Desk, string) {
	for _, f := range all {
		if found := f.pattern.FindStringSubmatch(line); found != nil {
			next, output, ok := f.tell(d, found[1:])
			if ok && impl.ValidDesk(next) {
				return next, output
			}
			return d, "no"
		}
	}
	return d, "what"
}

func wantLine(t *testing.T, what string, all []form, d impl.Desk, line string) {
	t.Helper()
	next, output := expectedOf(all, d, line)
	want(t, fmt.Sprintf("%s, %.300q", what, line), commandTold(d, line), deskTold(next, output, true))
}

// oddWords has words of all kinds, which are what some lines need.
func oddWords() []string {
	return []string{
		"", "00000000", "80000000", "3f800000", "3c23d70a", "bf800000", "3f000000", "3f000001", "00000001", "7f7fffff", "7f800000", "ff800000", "7fc00000", "ffc00000",
		"7F800000", "3F000000", "3f00000", "03f000000", "3f000000,3f000000", "none", "0", "1", "2", "-1", "63", "64", "65", "01", "+1", "-0", "1.0", "0x1", "1_0", "1000000000000000", "1000000000000001",
		"9223372036854775808", "moon", "a", "sun", "z", "Moon", "moon\n", "\n", "\t", "abcdefgh", "abcdefghi", "no", "ok", "what", "\x00", "\xff", "é",
		"3f800000,3f800000,00000000,00000000", "3f800000,00000000,00000000,00000000,00000000,00000000", "0000000040000000,0000000000000000",
		"moon:3f800000,3f800000,00000000,00000000,00000000,00000000,00000000", "00000000,00000000,3f000000:3f000000,00000000,00000000:3f800000",
	}
}

func TestOrdinaryLines(t *testing.T) {
	all := forms()
	want(t, "forms", len(all), 29)
	for _, f := range all {
		_, output := expectedOf(all, aDesk(), f.line())
		want(t, f.line()+" succeeds", output != "no" && output != "what", true)
		for i, d := range desks() {
			wantLine(t, fmt.Sprint("desk ", i), all, d, f.line())
		}
	}
}

func TestLinesWithOddWords(t *testing.T) {
	all := forms()
	for _, f := range all {
		for place := range f.words {
			for _, word := range oddWords() {
				for i, d := range desks()[:8] {
					wantLine(t, fmt.Sprint("desk ", i), all, d, f.with(place, word))
				}
			}
		}
	}
}

func TestLinesWithTextsOfParts(t *testing.T) {
	all := forms()
	for _, w := range writings() {
		for i, s := range w.texts {
			for _, d := range desks()[:2] {
				wantLine(t, fmt.Sprint(w.name, " ", i), all, d, w.name+" "+s)
				wantLine(t, fmt.Sprint(w.name, " ", i), all, d, w.name+" "+s+" ")
				wantLine(t, fmt.Sprint(w.name, " ", i), all, d, w.name+"  "+s)
			}
		}
	}
}

// Lines that are a word too long or too short for every form are answered
// what, and lines with other blanks are read word by word.
func TestLinesOfOtherWords(t *testing.T) {
	all := forms()
	lines := []string{"", " ", "  ", "   ", "    ", "nothing", "ok", "no", "what", "Mass", "mas", "masss", "mass,", "mass\n", "mass\r", "\nmass", "mass\x00", "mass\tmass", "run,00000000,00000000,0", strings.Repeat("x", 3*impl.MaxScript), strings.Repeat(" ", impl.MaxScript)}
	for _, f := range all {
		line := f.line()
		lines = append(lines, " "+line, line+" ", "  "+line, line+"  ", " "+line+" ", strings.ReplaceAll(line, " ", "  "), strings.ToUpper(line), line+"\n", line+"\t", line+" x", line+" 00000000", line+" 00000000 00000000", line+" 00000000 00000000 1")
		if cut := strings.LastIndexByte(line, ' '); cut > 0 {
			lines = append(lines, line[:cut], line[:cut+1])
		}
		for count := range 6 {
			for _, word := range []string{"", "00000000", "1", "none", "moon", "3f000000"} {
				lines = append(lines, f.name+strings.Repeat(" "+word, count), "x"+f.name+strings.Repeat(" "+word, count), f.name+"x"+strings.Repeat(" "+word, count))
			}
		}
	}
	for _, line := range lines {
		for i, d := range desks()[:3] {
			wantLine(t, fmt.Sprint("desk ", i), all, d, line)
		}
	}
}

// TestWhatLinesAreAnswered tells the answers without the forms above.
func TestWhatLinesAreAnswered(t *testing.T) {
	told := map[string][]string{
		"what": {
			"", " ", "mass ", " mass", "mass  ", "nearest 1", "state 3f800000", "energy", "energy 00000000 00000000", "run", "run 00000000 00000000", "run 00000000 00000000 1 ",
			"run  00000000 00000000 1", "later", "period x", "near 1", "far none", "points 3f000000", "fly 00000000", "fly 00000000 1 1", "constant 3f000000", "hop 3f800000",
			"hop 3f800000 3f800000 3f800000", "track 00000000 00000000", "keep", "keep a b", "keep  a", "take", "take moon sun", "drop", "drop moon ", "share 3f000000 3f000000",
			"bodies none none", "ball  ", "ships", "Ball", "quit",
		},
		"no": {
			"bodies ", "ball ", "orbit ", "ship ", "entries ", "share ", "energy ", "later ", "keep ", "take ", "drop ", "hop  ", "fly  ", "run   ", "track   ", "run 00000000  1",
			"ball none", "orbit none", "ship none", "share none", "energy none", "share 3f800000", "share 00000000", "share 80000000", "share 7fc00000", "share 3F000000", "share 3f000001",
			"share 3f000000,3f000000", "bodies x", "entries moon", "run bf800000 00000000 1", "run 00000000 7f800000 1", "run 00000000 00000000 65", "run 00000000 00000000 -1",
			"run 00000000 00000000 00000000", "run 0 0 0", "later 7f800000", "fly 7fc00000 0", "fly 00000000 65", "fly 00000000 01", "hop 00000000 3f800000", "hop 3f800000 80000000",
			"hop 3f800000 ff800000", "track 00000000 00000000 0", "track 00000000 00000000 65", "keep Moon", "keep abcdefghi", "keep moo1", "take none", "take Moon", "drop moons", "take moons", "keep moon\n", "drop moon\n",
		},
		"ok": {
			"bodies none", "entries none", "share 3f000000", "share 00000001", "run 00000000 00000000 0", "run 80000000 80000000 64", "later 00000000", "fly 00000000 0", "fly bf800000 1",
			"keep moon", "keep none", "take moon", "drop moon",
		},
	}
	for output, lines := range told {
		for _, line := range lines {
			got := outputOf(aDesk(), line)
			want(t, fmt.Sprintf("%q", line), got, output)
			if output != "ok" {
				want(t, fmt.Sprintf("%q changes nothing", line), commandTold(aDesk(), line), deskTold(aDesk(), output, true))
			}
		}
	}
}

// Neither a line that changes nothing nor another one lets the desk that it
// returns share memory with the one that it is given.
func TestLinesReturnNewMemory(t *testing.T) {
	lines := []string{"", "nothing", "share 3f800000", "keep Moon", "take none", "drop none", "run 00000000 00000000 65", "bodies x", "entries x"}
	for _, f := range forms() {
		lines = append(lines, f.line())
	}
	for _, d := range []impl.Desk{impl.NewDesk(), aDesk(), desks()[12]} {
		for _, line := range lines {
			checkCall(t, "DeskCommand", reflect.ValueOf(impl.DeskCommand), []reflect.Value{reflect.ValueOf(d), reflect.ValueOf(line)})
		}
	}
}

func TestLinesAtDesksThatAreNotValid(t *testing.T) {
	for _, line := range []string{"mass", "nothing", "", "bodies none", "share 3f000000", "entries none", "orbit " + orbitText(anEllipse()), "ball " + ballText(aBall()), "ship " + shipText(shipOf(1, 2, 3, 4)), "keep Moon"} {
		wantFailing(t, "DeskCommand "+line, impl.DeskCommand, []any{aDesk(), line}, 0, wrongDesks())
	}
}

func TestEntriesAreKeptTakenAndDropped(t *testing.T) {
	d := impl.NewDesk()
	step := func(line, output string) {
		t.Helper()
		next, told, ok := impl.DeskCommand(d, line)
		want(t, line, toldOr(told, ok), output)
		d = next
	}
	for i, name := range namesOf(impl.MaxEntries) {
		step("orbit "+orbitText(orbits()[i]), "ok")
		step("keep "+name, "ok")
	}
	want(t, "all are there", len(d.Entries), impl.MaxEntries)
	full := deskText(d)
	step("keep zzz", "no")
	step("take zzz", "no")
	step("drop zzz", "no")
	want(t, "nothing has changed", deskText(d), full)
	step("orbit "+orbitText(aBranch()), "ok")
	step("ball "+ballText(aBall()), "ok")
	for i, name := range namesOf(impl.MaxEntries) {
		step("take "+name, "ok")
		step("orbit", orbitText(orbits()[i]))
		step("keep "+name, "ok")
		want(t, name+" has the Mass of the ball now", numberText(d.Entries[i].Mass), numberText(aBall().Mass))
		want(t, name+" has its Orbit", orbitText(d.Entries[i].Orbit), orbitText(orbits()[i]))
	}
	for _, name := range namesOf(impl.MaxEntries) {
		step("drop "+name, "ok")
		step("drop "+name, "no")
		step("take "+name, "no")
	}
	step("entries", "none")
}
