package tests

import (
	"fmt"
	"slices"
	"strings"
	"testing"

	"loop.example/g01284/impl"
)

func wrongNames() []string {
	return []string{"", "abcdefghi", "Moon", "moo1", "mo on", "moon\x00", "{", "`", "é", "mo\xffn", "-", "moon\n", strings.Repeat("a", 255), strings.Repeat("a", 256+4)}
}

func anEntry() impl.Entry { return entryOf("moon", 1.5, anEllipse()) }

// wrongEntries has entries of which one part is not as it must be.
func wrongEntries() []impl.Entry {
	wrong := []impl.Entry{{}}
	for _, name := range wrongNames() {
		wrong = append(wrong, entryOf(name, 1.5, anEllipse()))
	}
	for _, mass := range wrongMasses() {
		wrong = append(wrong, entryOf("moon", mass, anEllipse()))
	}
	for _, o := range wrongOrbits() {
		wrong = append(wrong, entryOf("moon", 1.5, o))
	}
	return wrong
}

// namesOf has count names in their order, of one to eight letters.
func namesOf(count int) []string {
	var names []string
	for i := range count {
		names = append(names, strings.Repeat("m", i%8)+string(rune('a'+i)))
	}
	slices.Sort(names)
	return names
}

// catalogOf has count entries of all kinds.
func catalogOf(count int) []impl.Entry {
	var list []impl.Entry
	for i, name := range namesOf(count) {
		list = append(list, entryOf(name, float32(i)+0.5, orbits()[i%len(orbits())]))
	}
	return list
}

// namedList has entries with such names, in this order.
func namedList(names ...string) []impl.Entry {
	var list []impl.Entry
	for i, name := range names {
		list = append(list, entryOf(name, float32(i+1), anEllipse()))
	}
	return list
}

// wrongEntryLists has lists that are too long, not in order, or have one entry
// that is none.
func wrongEntryLists() [][]impl.Entry {
	wrong := [][]impl.Entry{
		catalogOf(impl.MaxEntries + 1), namedList("io", "io"), namedList("moon", "io"), namedList("a", "c", "b"), namedList("b", "a", "c"), namedList("ab", "a"),
		namedList("a", "b", "b"), namedList("moon", "a", "moon"),
	}
	for _, e := range wrongEntries() {
		wrong = append(wrong, []impl.Entry{e}, []impl.Entry{entryOf("a", 1, anEllipse()), e}, []impl.Entry{e, entryOf("z", 1, anEllipse())})
	}
	return wrong
}

func entryText(e impl.Entry) string {
	return fmt.Sprintf("%q:%s,%s", e.Name, numberText(e.Mass), orbitText(e.Orbit))
}

func entryTold(e impl.Entry, ok bool) string { return toldOr(entryText(e), ok) }

func entriesText(list []impl.Entry) string { return eachTold(list, entryText) }

func entriesTold(list []impl.Entry, ok bool) string { return toldOr(entriesText(list), ok) }

func foundTold(i int64, ok bool) string { return toldOr(fmt.Sprint(i), ok) }

func recoveredTold(list []impl.Entry, length int64, ok bool) string {
	return toldOr(fmt.Sprint(entriesText(list), " ", length), ok)
}

func TestValidEntry(t *testing.T) {
	for _, name := range []string{"a", "z", "io", "moon", "abcdefgh", "zzzzzzzz"} {
		for _, mass := range []float32{number(leastBits), number(subnormal), 1, number(mostBits)} {
			for i, o := range orbits() {
				want(t, fmt.Sprint(name, mass, i), impl.ValidEntry(entryOf(name, mass, o)), true)
			}
		}
	}
	for i, e := range wrongEntries() {
		want(t, fmt.Sprint("wrong entry ", i, ", ", e), impl.ValidEntry(e), false)
	}
}

func TestAreEntries(t *testing.T) {
	for count := range impl.MaxEntries + 3 {
		want(t, fmt.Sprint("entries ", count), impl.AreEntries(catalogOf(count)), count <= impl.MaxEntries)
	}
	want(t, "none", impl.AreEntries(nil) && impl.AreEntries([]impl.Entry{}), true)
	want(t, "names of several lengths", impl.AreEntries(namedList("a", "aa", "aaaaaaaa", "ab", "b", "ba")), true)
	for i, list := range wrongEntryLists() {
		want(t, fmt.Sprint("wrong list ", i), impl.AreEntries(list), false)
	}
}

func TestSameEntries(t *testing.T) {
	numbers := []float32{0, number(minusZero), 1, -1, number(nanBits), number(0xffc00001), number(lessInf)}
	for field := range 7 {
		for _, x := range numbers {
			for _, y := range numbers {
				a, b := anEntry(), anEntry()
				*append(fieldsOf(&a.Orbit), &a.Mass)[field] = x
				*append(fieldsOf(&b.Orbit), &b.Mass)[field] = y
				same := bitsOf(x) == bitsOf(y)
				want(t, entryText(a)+" "+entryText(b), impl.SameEntries([]impl.Entry{a}, []impl.Entry{b}), same)
				want(t, "behind another, "+entryText(a)+" "+entryText(b), impl.SameEntries([]impl.Entry{anEntry(), a}, []impl.Entry{anEntry(), b}), same)
			}
		}
	}
	names := append(wrongNames(), "moon", "mooo")
	for i, name := range names {
		for k, other := range names {
			want(t, fmt.Sprintf("%q %q", name, other), impl.SameEntries(namedList(name), namedList(other)), i == k)
		}
	}
	one, two := namedList("io"), namedList("io", "moon")
	want(t, "none", impl.SameEntries(nil, []impl.Entry{}), true)
	want(t, "one and none", impl.SameEntries(one, nil) || impl.SameEntries(nil, one), false)
	want(t, "one and two", impl.SameEntries(one, two) || impl.SameEntries(two, one), false)
	want(t, "another order", impl.SameEntries(two, []impl.Entry{two[1], two[0]}), false)
	want(t, "what are no entries", impl.SameEntries(catalogOf(impl.MaxEntries+3), catalogOf(impl.MaxEntries+3)), true)
}

func TestCatalogsFailForWrongArguments(t *testing.T) {
	list := namedList("a", "moon")
	for _, c := range []call{
		{"PutEntry", impl.PutEntry, []any{list, entryOf("io", 1, aBranch())}},
		{"DropEntry", impl.DropEntry, []any{list, "moon"}},
		{"FindEntry", impl.FindEntry, []any{list, "a"}},
		{"FindEntry", impl.FindEntry, []any{list, "moon"}},
		{"StoreEntry", impl.StoreEntry, []any{anEntry()}},
		{"StoreEntries", impl.StoreEntries, []any{list}},
	} {
		c.wantFailingTypes(t)
	}
	names := append(wrongNames(), "b", "moo", "moons", "z", "A")
	wantFailing(t, "DropEntry, names", impl.DropEntry, []any{list, "moon"}, 1, names)
	wantFailing(t, "FindEntry, names", impl.FindEntry, []any{list, "moon"}, 1, names)
}

func TestPutEntry(t *testing.T) {
	for count := range impl.MaxEntries + 1 {
		all := catalogOf(count)
		for i, e := range all {
			what := fmt.Sprint("entry ", i, " of ", count)
			others := slices.Concat(all[:i], all[i+1:])
			want(t, what+" comes back", entriesTold(impl.PutEntry(others, e)), entriesText(all))
			heavy := entryOf(e.Name, e.Mass+100, aBranch())
			changed := slices.Clone(all)
			changed[i] = heavy
			want(t, what+" in its own place", entriesTold(impl.PutEntry(all, heavy)), entriesText(changed))
			want(t, what+" is there", foundTold(impl.FindEntry(all, e.Name)), fmt.Sprint(i))
			want(t, what+" is dropped", entriesTold(impl.DropEntry(all, e.Name)), entriesText(others))
			want(t, what+" is not there", foundTold(impl.FindEntry(others, e.Name)), "fail")
			want(t, what+" is not there to be dropped", entriesTold(impl.DropEntry(others, e.Name)), "fail")
		}
		for _, name := range []string{"a", "zz", "mmmb", "k"} {
			told, e := "fail", entryOf(name, 3, anEllipse())
			if count < impl.MaxEntries || slices.Contains(namesOf(count), name) {
				kept := slices.DeleteFunc(slices.Clone(all), func(e impl.Entry) bool { return e.Name == name })
				kept = append(kept, e)
				slices.SortFunc(kept, func(a, b impl.Entry) int { return strings.Compare(a.Name, b.Name) })
				told = entriesText(kept)
			}
			want(t, fmt.Sprint(name, " among ", count), entriesTold(impl.PutEntry(all, e)), told)
		}
	}
	want(t, "the first one", entriesTold(impl.PutEntry(nil, anEntry())), entryText(anEntry()))
	want(t, "between a name and a longer one", entriesTold(impl.PutEntry(namedList("a", "aaa"), entryOf("aa", 9, aBranch()))), entriesText([]impl.Entry{
		namedList("a")[0], entryOf("aa", 9, aBranch()), entryOf("aaa", 2, anEllipse()),
	}))
	want(t, "the last one is dropped", entriesTold(impl.DropEntry(namedList("io"), "io")), "")
	want(t, "dropped from none", entriesTold(impl.DropEntry(nil, "io")), "fail")
	want(t, "found in none", foundTold(impl.FindEntry(nil, "io")), "fail")
}

// storedBytes stores what need not be an entry.
func storedBytes(name string, numbers ...float32) string {
	s := "ORB1" + string([]byte{byte(len(name))}) + name
	for _, x := range numbers {
		bits := bitsOf(x)
		s += string([]byte{byte(bits), byte(bits >> 8), byte(bits >> 16), byte(bits >> 24)})
	}
	return checkedBytes(s)
}

func checkedBytes(s string) string {
	check, _ := impl.CheckOf(0, s)
	return s + string([]byte{byte(check), byte(check >> 8)})
}

func storedEntry(e impl.Entry) string {
	o := e.Orbit
	return storedBytes(e.Name, e.Mass, o.Long, o.Round, o.Tilt, o.Node, o.Peri, o.Phase)
}

func storedEntries(list []impl.Entry) string {
	s := ""
	for _, e := range list {
		s += storedEntry(e)
	}
	return s
}

func TestEntriesAreLoadedAsStored(t *testing.T) {
	for i, o := range append(orbits(), ordinaryOrbits()...) {
		for _, name := range []string{"a", "io", "moon", "abcdefgh", "z"} {
			for _, mass := range []float32{1, 0.1, number(leastBits), number(mostBits)} {
				e := entryOf(name, mass, o)
				what := fmt.Sprint(name, " with the mass ", mass, ", orbit ", i)
				stored, ok := impl.StoreEntry(e)
				want(t, what, bytesTold(stored, ok), bytesTold(storedEntry(e), true))
				want(t, what+", bytes", len(stored), 35+len(name))
				want(t, what+", loaded", entryTold(impl.LoadEntry(stored)), entryText(e))
				want(t, what+", recovered", recoveredTold(impl.RecoverEntries(stored)), recoveredTold([]impl.Entry{e}, int64(len(stored)), true))
			}
		}
	}
}

func TestCatalogsAreLoadedAsStored(t *testing.T) {
	for count := range impl.MaxEntries + 1 {
		list := catalogOf(count)
		stored, ok := impl.StoreEntries(list)
		want(t, fmt.Sprint("entries ", count), bytesTold(stored, ok), bytesTold(storedEntries(list), true))
		back, length, ok := impl.RecoverEntries(stored)
		want(t, fmt.Sprint("entries ", count, ", recovered"), recoveredTold(back, length, ok), recoveredTold(list, int64(len(stored)), true))
		want(t, fmt.Sprint("entries ", count, ", the same"), impl.SameEntries(list, back), true)
	}
	_, ok := impl.StoreEntries(nil)
	want(t, "none", ok, true)
	_, ok = impl.StoreEntries(catalogOf(impl.MaxEntries + 1))
	want(t, "one more", ok, false)
}

func TestEntriesThatAreCutOrBent(t *testing.T) {
	for _, e := range []impl.Entry{anEntry(), entryOf("a", 1, impl.Orbit{Long: 1}), entryOf("abcdefgh", 0.1, aBranch())} {
		stored := storedEntry(e)
		for i := range stored {
			want(t, fmt.Sprint(e.Name, ", cut at ", i), entryTold(impl.LoadEntry(stored[:i])), "fail")
			want(t, fmt.Sprint(e.Name, ", cut before ", i), i == 0 || entryTold(impl.LoadEntry(stored[i:])) == "fail", true)
			for by := 1; by < 256; by++ {
				bent := []byte(stored)
				bent[i] ^= byte(by)
				want(t, fmt.Sprint(e.Name, ", bent at ", i, " by ", by), entryTold(impl.LoadEntry(string(bent))), "fail")
			}
		}
		for _, more := range []string{"\x00", "O", "ORB1", stored, storedEntry(entryOf("zz", 1, aBranch()))} {
			want(t, fmt.Sprintf("%s, and %q behind it", e.Name, more), entryTold(impl.LoadEntry(stored+more)), "fail")
		}
	}
	want(t, "none", entryTold(impl.LoadEntry("")), "fail")
}

// These bytes have the right check number, but are not those of an entry.
func TestBytesThatAreNoEntries(t *testing.T) {
	for _, e := range wrongEntries() {
		want(t, fmt.Sprintf("%.300v", e), entryTold(impl.LoadEntry(storedEntry(e))), "fail")
		want(t, fmt.Sprintf("recovered, %.300v", e), recoveredTold(impl.RecoverEntries(storedEntry(e))), " 0")
	}
	body := storedEntry(anEntry())
	body = body[:len(body)-2]
	for what, s := range map[string]string{
		"other letters in front":   checkedBytes("ORB2" + body[4:]),
		"small letters in front":   checkedBytes("orb1" + body[4:]),
		"a byte more":              checkedBytes(body + "\x00"),
		"a byte less":              checkedBytes(body[:len(body)-1]),
		"a longer name":            checkedBytes(body[:4] + "\x05" + body[5:]),
		"a shorter name":           checkedBytes(body[:4] + "\x03" + body[5:]),
		"a name that is too long":  checkedBytes(body[:4] + "\xff" + body[5:]),
		"the bytes of the head":    "ORB1",
		"the head and a length":    "ORB1\x04",
		"a check of another start": body + "\x00\x00",
	} {
		want(t, what, entryTold(impl.LoadEntry(s)), "fail")
		want(t, what+", recovered", recoveredTold(impl.RecoverEntries(s)), " 0")
	}
}

// A check number is less than CheckSize, though its two bytes can tell more.
func TestCheckNumbersThatAreTooGreat(t *testing.T) {
	for mass := float32(1); ; mass++ {
		stored := storedEntry(entryOf("moon", mass, anEllipse()))
		body := stored[:len(stored)-2]
		check, _ := impl.CheckOf(0, body)
		if greater := check + impl.CheckSize; greater < 1<<16 {
			want(t, "the check number", entryTold(impl.LoadEntry(stored)) != "fail", true)
			want(t, "a greater one", entryTold(impl.LoadEntry(body+string([]byte{byte(greater), byte(greater >> 8)}))), "fail")
			return
		}
	}
}

func TestRecoverEntries(t *testing.T) {
	list := catalogOf(5)
	stored := storedEntries(list)
	ends := []int{0}
	for i := range list {
		ends = append(ends, len(storedEntries(list[:i+1])))
	}
	for i := range len(stored) + 1 {
		whole := 0
		for whole < len(list) && ends[whole+1] <= i {
			whole++
		}
		told := recoveredTold(list[:whole], int64(ends[whole]), true)
		want(t, fmt.Sprint("cut at ", i), recoveredTold(impl.RecoverEntries(stored[:i])), told)
		if i == len(stored) {
			break
		}
		for _, by := range []byte{1, 0x20, 0x80, 0xff} {
			bent := []byte(stored)
			bent[i] ^= by
			want(t, fmt.Sprint("bent at ", i, " by ", by), recoveredTold(impl.RecoverEntries(string(bent))), told)
		}
	}
}

func TestWhatFollowsBehindEntries(t *testing.T) {
	list := namedList("b", "moon")
	stored := storedEntries(list)
	told := recoveredTold(list, int64(len(stored)), true)
	for _, more := range []string{"\x00", "x", "O", "ORB1", "ORB1\x04moon", strings.Repeat("\xff", 100), strings.Repeat("ORB1", 50)} {
		want(t, fmt.Sprintf("%q behind them", more), recoveredTold(impl.RecoverEntries(stored+more)), told)
		want(t, fmt.Sprintf("%q in front", more), recoveredTold(impl.RecoverEntries(more+stored)), " 0")
	}
	for _, name := range []string{"moon", "moo", "mooa", "b", "a", "c", "moom"} {
		e := storedEntry(entryOf(name, 9, aBranch()))
		want(t, "then "+name, recoveredTold(impl.RecoverEntries(stored+e)), told)
		want(t, "then "+name+" and z", recoveredTold(impl.RecoverEntries(stored+e+storedEntry(entryOf("z", 1, aBranch())))), told)
	}
	for _, name := range []string{"moons", "mooo", "z", "n"} {
		e := entryOf(name, 9, aBranch())
		all := append(slices.Clone(list), e)
		want(t, "then "+name, recoveredTold(impl.RecoverEntries(stored+storedEntry(e))), recoveredTold(all, int64(len(stored)+39+len(name)-4), true))
	}
	many := catalogOf(impl.MaxEntries + 2)
	most := storedEntries(many[:impl.MaxEntries])
	want(t, "the most entries", recoveredTold(impl.RecoverEntries(most)), recoveredTold(many[:impl.MaxEntries], int64(len(most)), true))
	want(t, "one more", recoveredTold(impl.RecoverEntries(most+storedEntry(many[impl.MaxEntries]))), recoveredTold(many[:impl.MaxEntries], int64(len(most)), true))
	want(t, "two more", recoveredTold(impl.RecoverEntries(storedEntries(many))), recoveredTold(many[:impl.MaxEntries], int64(len(most)), true))
	want(t, "no bytes", recoveredTold(impl.RecoverEntries("")), " 0")
	_, _, ok := impl.RecoverEntries("\xff")
	want(t, "it always succeeds", ok, true)
}
