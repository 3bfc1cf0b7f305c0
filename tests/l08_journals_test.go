package tests

import (
	"fmt"
	"strconv"
	"strings"
	"testing"

	"loop.example/g01284/impl"
)

// checkAfter does not use the package that is tested.
func checkAfter(check int, s string) int {
	for _, b := range []byte(s) {
		check = (809*check + int(b) + 103) % 65003
	}
	return check
}

// journalLines has for each line what a journal has for it.
func journalLines(lines []string) []string {
	var list []string
	check := 0
	for _, line := range lines {
		check = checkAfter(check, line)
		list = append(list, strconv.Itoa(check)+" "+line+"\n")
	}
	return list
}

func journalOf(lines []string) string { return strings.Join(journalLines(lines), "") }

func journalTold(lines []string) string {
	text, ok := impl.JournalOf(lines)
	return toldOr(text, ok)
}

func linesTold(lines []string, length int64, ok bool) string {
	return toldOr(fmt.Sprintf("%q %d", lines, length), ok)
}

// wholeTold is what is told of a text that begins with the journal of these
// lines, and of no more.
func wholeTold(lines []string) string {
	return linesTold(append([]string(nil), lines...), int64(len(journalOf(lines))), true)
}

func recoverTold(text string) string { return linesTold(impl.RecoverJournal(text)) }

func someJournals() [][]string {
	return [][]string{
		nil, {}, {""}, {" "}, {"", ""}, {"mass"}, {"mass", "share"}, {"mass", "mass", "mass"}, {"", "mass", "", " share ", "  "}, {"0", "65002 ", "12 mass", "-1 x"},
		{"share 3f000000", "entries none", "nothing"}, {"\x00", "\xff\xfe", "é", "\r", "\t"}, drawnLines(3, 40), {strings.Repeat("x", 3000), strings.Repeat(" ", 500), ""},
	}
}

func TestJournalOf(t *testing.T) {
	want(t, "the journal of an empty line", journalTold([]string{""}), "0 \n")
	want(t, "the journal of two lines", journalTold([]string{"a", "b"}), "200 a\n31995 b\n")
	for i, lines := range someJournals() {
		want(t, fmt.Sprint("journal ", i), journalTold(lines), journalOf(lines))
	}
}

func TestJournalsOfLinesWithNewlines(t *testing.T) {
	for _, lines := range [][]string{{"\n"}, {"a\n"}, {"\na"}, {"a\nb"}, {"mass", "share\n"}, {"mass\n", "share"}, {"", "\n", ""}, {"mass\r\n"}, {"200 a\n31995 b"}} {
		want(t, fmt.Sprintf("%q", lines), journalTold(lines), "fail")
	}
}

func TestJournalsOfTheMostBytes(t *testing.T) {
	for size := impl.MaxScript - 12; size <= impl.MaxScript+3; size++ {
		line := strings.Repeat("x", size)
		journal, told := journalOf([]string{line}), "fail"
		if len(journal) <= impl.MaxScript {
			told = journal
		}
		want(t, fmt.Sprint("a line of ", size), journalTold([]string{line}) == told, true)
	}
	for _, line := range []string{"", "m", "mass", strings.Repeat("y", 700)} {
		var lines []string
		for len(journalOf(append(lines, line))) <= impl.MaxScript {
			lines = append(lines, line)
		}
		what := fmt.Sprint("lines of ", len(line))
		want(t, what, journalTold(lines) == journalOf(lines), true)
		want(t, what+", one more", journalTold(append(lines, line)), "fail")
		// The last line fills the journal, and then it is one byte too long.
		last := lines[len(lines)-1]
		for len(journalOf(append(lines[:len(lines)-1:len(lines)-1], last+"x"))) <= impl.MaxScript {
			last += "x"
		}
		filled := append(lines[:len(lines)-1:len(lines)-1], last)
		want(t, what+", filled", journalTold(filled) == journalOf(filled), true)
		want(t, what+", filled and recovered", recoverTold(journalOf(filled)) == wholeTold(filled), true)
		want(t, what+", a byte more", journalTold(append(filled[:len(filled)-1:len(filled)-1], last+"x")), "fail")
	}
	want(t, "many lines", journalTold(make([]string, 10*impl.MaxScript)), "fail")
	want(t, "a long line", journalTold([]string{strings.Repeat("x", 100*impl.MaxScript)}), "fail")
}

func TestJournalsAreRecovered(t *testing.T) {
	for i, lines := range someJournals() {
		want(t, fmt.Sprint("journal ", i), recoverTold(journalOf(lines)), wholeTold(lines))
	}
	want(t, "none", recoverTold(""), "[] 0")
}

// shortJournals have few bytes, so that each of them can be bent in many ways.
func shortJournals() [][]string {
	return [][]string{{""}, {"mass"}, {"", "mass", " a b ", "share 3f000000", ""}, {"points", "take moon", "nearest"}}
}

// wholeLines returns the lines that end before a byte of a journal.
func wholeLines(lines []string, end int) []string {
	for count := len(lines); count > 0; count-- {
		if len(journalOf(lines[:count])) <= end {
			return lines[:count]
		}
	}
	return nil
}

func TestJournalsThatAreCutOrBent(t *testing.T) {
	for _, lines := range shortJournals() {
		journal := journalOf(lines)
		for i := range len(journal) + 1 {
			told := wholeTold(wholeLines(lines, i))
			want(t, fmt.Sprintf("%q, cut at %d", journal, i), recoverTold(journal[:i]), told)
			if i == len(journal) {
				continue
			}
			for by := 1; by < 256; by++ {
				bent := []byte(journal)
				bent[i] ^= byte(by)
				want(t, fmt.Sprintf("%q", bent), recoverTold(string(bent)), told)
			}
			want(t, fmt.Sprintf("%q, without byte %d", journal, i), recoverTold(journal[:i]+journal[i+1:]), recoverExpected(journal[:i]+journal[i+1:]))
			for _, more := range []string{"0", "+", "-", " ", "\n", "x", "1"} {
				text := journal[:i] + more + journal[i:]
				want(t, fmt.Sprintf("%q", text), recoverTold(text), recoverExpected(text))
			}
		}
	}
}

// recoverExpected looks for the most lines of a text whose journal the text
// begins with.
func recoverExpected(text string) string {
	var lines []string
	for _, told := range strings.Split(text, "\n") {
		line := told[strings.IndexByte(told, ' ')+1:]
		if !strings.HasPrefix(text, journalOf(append(lines, line))) {
			break
		}
		lines = append(lines, line)
	}
	return wholeTold(lines)
}

func TestCheckNumbersOfJournals(t *testing.T) {
	lines := []string{"mass", "", "share"}
	parts := journalLines(lines)
	for i, part := range parts {
		check, line, _ := strings.Cut(part, " ")
		n, _ := strconv.Atoi(check)
		told := wholeTold(lines[:i])
		for _, other := range []string{
			"0" + part, "+" + part, "-" + part, " " + part, check + "  " + line, check + line, check + "\t" + line, check + ".0 " + line, "0x" + part, check + "0 " + line, "\n" + part,
			strconv.Itoa(n+65003) + " " + line, strconv.Itoa(n-65003) + " " + line, strconv.Itoa(n+1) + " " + line, " " + line, line, check + "\r " + line,
			strconv.Itoa(checkAfter(0, "x"+lines[i])) + " " + line,
		} {
			text := strings.Join(parts[:i], "") + other + strings.Join(parts[i+1:], "")
			want(t, fmt.Sprintf("%q", text), recoverTold(text), told)
		}
	}
	want(t, "a check number that begins with 0 again", recoverTold(parts[0]+parts[0]), wholeTold(lines[:1]))
	want(t, "lines in another order", recoverTold(parts[1]+parts[0]), "[] 0")
	want(t, "no first line", recoverTold(parts[1]+parts[2]), "[] 0")
}

func TestWhatFollowsBehindJournals(t *testing.T) {
	for i, lines := range shortJournals() {
		journal, told := journalOf(lines), wholeTold(lines)
		for _, more := range []string{" ", "\n", "x", "0", "0 ", "0 x\n", "-1 mass\n", "mass\n", "\x00", strings.Repeat("\n", 100), strings.Repeat("x", impl.MaxScript-len(journal))} {
			want(t, fmt.Sprintf("journal %d, and %.20q behind it", i, more), recoverTold(journal+more), told)
		}
		want(t, fmt.Sprint("journal ", i, ", and one byte too many"), recoverTold(journal+strings.Repeat("x", impl.MaxScript-len(journal)+1)), "fail")
	}
	empty := strings.Repeat("0 \n", impl.MaxScript/3)
	want(t, "the most lines", recoverTold(empty+"0") == wholeTold(make([]string, impl.MaxScript/3)), true)
	want(t, "texts of one byte more", recoverTold(strings.Repeat("\n", impl.MaxScript+1)), "fail")
	want(t, "long texts", recoverTold(strings.Repeat("\n", 100*impl.MaxScript)), "fail")
}

func runJournalTold(d impl.Desk, text string) string {
	next, count, ok := impl.RunJournal(d, text)
	return deskTold(next, count, ok)
}

// TestJournalsAreRun has promise 9: a journal makes the same as its lines, as
// far as it is intact.
func TestJournalsAreRun(t *testing.T) {
	for seed := range uint32(20) {
		lines := drawnLines(seed, 50)
		parts := journalLines(lines)
		journal := strings.Join(parts, "")
		for i, d := range desks()[:3] {
			what := fmt.Sprint("journal ", seed, ", desk ", i)
			next, _ := expectedOfAll(d, lines)
			want(t, what, runJournalTold(d, journal), deskTold(next, len(lines), true))
			behind, _, ok := impl.RunDesk(d, scriptOf(lines))
			want(t, what+", as a script", ok && impl.SameDesk(behind, next), true)
			for _, count := range []int{0, 1, 7, 20, 49} {
				half := journal[:len(strings.Join(parts[:count], ""))+len(parts[count])/2]
				next, _ := expectedOfAll(d, lines[:count])
				want(t, fmt.Sprint(what, ", cut behind ", count), runJournalTold(d, half), deskTold(next, count, true))
				want(t, fmt.Sprint(what, ", bent behind ", count), runJournalTold(d, half+"x"+journal[len(half):]), deskTold(next, count, true))
			}
		}
	}
}

func TestJournalsOfFewLinesAreRun(t *testing.T) {
	d := aDesk()
	for text, count := range map[string]int{
		"": 0, "mass\n": 0, "\n": 0, "x": 0, journalOf([]string{""}): 1, journalOf([]string{"mass", "nothing", "share 3f800000"}): 3,
		journalOf([]string{"", "", ""}): 3, strings.Repeat("x", impl.MaxScript): 0,
	} {
		want(t, fmt.Sprintf("%.80q", text), runJournalTold(d, text), deskTold(d, count, true))
	}
	want(t, "one byte too many", runJournalTold(d, strings.Repeat("x", impl.MaxScript+1)), "fail")
	changed := aDesk()
	changed.Share = 0.5
	want(t, "a change", runJournalTold(d, journalOf([]string{"share 3f000000", "mass"})+"0 share 3e800000\n"), deskTold(changed, 2, true))
	for _, text := range []string{"", "x", journalOf([]string{"mass"}), journalOf([]string{"bodies none", "share 3f000000"})} {
		wantFailing(t, fmt.Sprintf("RunJournal %q", text), impl.RunJournal, []any{aDesk(), text}, 0, wrongDesks())
	}
}
