package tests

import (
	"fmt"
	"strings"
	"testing"

	"loop.example/g01284/impl"
)

// scriptOf has a newline behind each line.
func scriptOf(lines []string) string {
	script := ""
	for _, line := range lines {
		script += line + "\n"
	}
	return script
}

// drawnLines has lines of all forms in an order that is drawn from a seed, some
// of which have a word too many, too few, or an odd one.
func drawnLines(seed uint32, count int) []string {
	all, odd := forms(), oddWords()
	draw := func(limit int) int {
		_, seed = drawnOf(seed)
		return int(seed>>8) % limit
	}
	var lines []string
	for range count {
		f := all[draw(len(all))]
		line := f.line()
		switch draw(8) {
		case 0:
			line += " "
		case 1:
			line = f.name
		case 2:
			if len(f.words) > 0 {
				line = f.with(draw(len(f.words)), strings.ReplaceAll(odd[draw(len(odd))], "\n", "x"))
			}
		}
		lines = append(lines, line)
	}
	return lines
}

// expectedOfAll tells what lines make of a desk, one after another.
func expectedOfAll(d impl.Desk, lines []string) (impl.Desk, []string) {
	all := forms()
	var outputs []string
	for _, line := range lines {
		next, output := expectedOf(all, d, line)
		d, outputs = next, append(outputs, output)
	}
	return d, outputs
}

func TestScriptsAreLinesOneAfterAnother(t *testing.T) {
	for seed := range uint32(40) {
		lines := drawnLines(seed, 60)
		for i, d := range desks()[:6] {
			what := fmt.Sprint("script ", seed, ", desk ", i)
			next, outputs := expectedOfAll(d, lines)
			want(t, what, scriptTold(d, scriptOf(lines)), deskTold(next, scriptOf(outputs), true))
			now := d
			var told []string
			for _, line := range lines {
				behind, output, ok := impl.DeskCommand(now, line)
				want(t, what+", "+line, ok && impl.ValidDesk(behind), true)
				now, told = behind, append(told, output)
			}
			want(t, what+", line by line", deskTold(now, scriptOf(told), true), deskTold(next, scriptOf(outputs), true))
		}
	}
}

func TestScripts(t *testing.T) {
	d := aDesk()
	for _, c := range []struct{ script, outputs string }{
		{"", ""},
		{"\n", "what\n"},
		{"\n\n\n", "what\nwhat\nwhat\n"},
		{"share\n", "3e99999a\n"},
		{"share\n\nshare\n", "3e99999a\nwhat\n3e99999a\n"},
		{"share\r\n", "what\n"},
		{"share \nshare  x\nshare x\n", "no\nwhat\nno\n"},
		{"no\nwhat\nok\n", "what\nwhat\nwhat\n"},
	} {
		want(t, fmt.Sprintf("%q", c.script), scriptTold(d, c.script), deskTold(d, c.outputs, true))
	}
	changed := aDesk()
	changed.Share, changed.Entries = 0.5, nil
	want(t, "changes", scriptTold(d, "share 3f000000\nentries none\nshare 3f800000\nshare\n"), deskTold(changed, "ok\nok\nno\n3f000000\n", true))
}

func TestScriptsThatEndWithinALine(t *testing.T) {
	for _, script := range []string{"share", " ", "mass\nshare", "\nx", "mass\n ", "mass\n\x00", "mass\nmass\r"} {
		want(t, fmt.Sprintf("%q", script), scriptTold(aDesk(), script), "fail")
	}
}

func TestScriptsOfTheMostBytes(t *testing.T) {
	d := aDesk()
	for _, c := range []struct{ line, output string }{
		{"mass\n", "3fc00000\n"},
		{"\n", "what\n"},
		{strings.Repeat("x", impl.MaxScript-1) + "\n", "what\n"},
		{strings.Repeat("x", impl.MaxScript/2-1) + "\n", "what\n"},
		{"share 3f800000\n\n", "no\nwhat\n"},
	} {
		times := impl.MaxScript / len(c.line)
		script, outputs := strings.Repeat(c.line, times), strings.Repeat(c.output, times)
		script += strings.Repeat("\n", impl.MaxScript-len(script))
		outputs += strings.Repeat("what\n", impl.MaxScript-len(c.line)*times)
		what := fmt.Sprintf("lines of %d bytes", len(c.line))
		want(t, what, len(script), impl.MaxScript)
		d.Bodies = []impl.Body{massAt(0, 0, 0, 1.5)}
		want(t, what, scriptTold(d, script) == deskTold(d, outputs, true), true)
		want(t, what+", one byte more", scriptTold(d, "\n"+script), "fail")
		want(t, what+", one byte more at the end", scriptTold(d, script+"\n"), "fail")
		want(t, what+", one byte less", scriptTold(d, script[1:]) != "fail", true)
	}
	want(t, "many bytes", scriptTold(d, strings.Repeat("\n", 100*impl.MaxScript)), "fail")
}

// Outputs can have more bytes than scripts have at most.
func TestLongOutputs(t *testing.T) {
	d := aDesk()
	_, output, ok := impl.DeskCommand(d, "track 00000000 3dcccccd 64")
	want(t, "a long output", ok && len(output) == 192*9-1, true)
	script := strings.Repeat("track 00000000 3dcccccd 64\n", 500)
	want(t, "many of them", scriptTold(d, script) == deskTold(d, strings.Repeat(output+"\n", 500), true), true)
}

func TestScriptsAtDesksThatAreNotValid(t *testing.T) {
	for _, script := range []string{"", "\n", "mass\n", "bodies none\nentries none\nshare 3f000000\n"} {
		wantFailing(t, fmt.Sprintf("RunDesk %q", script), impl.RunDesk, []any{aDesk(), script}, 0, wrongDesks())
	}
}

func countTold(refusals, others int64, ok bool) string {
	return toldOr(fmt.Sprint(refusals, " ", others), ok)
}

func TestCountOutputs(t *testing.T) {
	for text, told := range map[string]string{
		"":                            "0 0",
		"\n":                          "0 1",
		"\n\n":                        "0 2",
		"no\n":                        "1 0",
		"what\n":                      "1 0",
		"ok\n":                        "0 1",
		"no\nwhat\nok\nno\n":          "3 1",
		"no\n\nwhat\n":                "2 1",
		"\nno\n":                      "1 1",
		" no\nno \nno no\n":           "0 3",
		"what no\nnowhat\nno,what\n":  "0 3",
		"whatno\nnone\nnot\nwhats\n":  "0 4",
		"n\nwha\nw\no\nNo\nWHAT\n":    "0 6",
		"no\r\nwhat\x00\n\x00no\n":    "0 3",
		"3f800000 no\n0 1 what\nwh\n": "0 3",
		"no":                          "fail",
		"what":                        "fail",
		"ok\nno":                      "fail",
		" ":                           "fail",
		"no\n ":                       "fail",
		"\nx":                         "fail",
	} {
		want(t, fmt.Sprintf("%q", text), countTold(impl.CountOutputs(text)), told)
	}
}

func TestCountOutputsOfTheMostBytes(t *testing.T) {
	for line, told := range map[string]string{
		"\n":        "0 16000",
		"no\n~\n":   "3200 3200",
		"what\n":    "3200 0",
		"no what\n": "0 2000",
		strings.Repeat("no", impl.MaxScript/2-1) + "x\n": "0 1",
	} {
		text := strings.Repeat(line, impl.MaxScript/len(line))
		what := fmt.Sprintf("lines of %d bytes", len(line))
		want(t, what, len(text), impl.MaxScript)
		want(t, what, countTold(impl.CountOutputs(text)), told)
		want(t, what+", one byte more", countTold(impl.CountOutputs(text+"\n")), "fail")
		want(t, what+", one byte more in front", countTold(impl.CountOutputs("\n"+text)), "fail")
	}
	want(t, "many bytes", countTold(impl.CountOutputs(strings.Repeat("no\n", impl.MaxScript))), "fail")
}

func TestOutputsOfScriptsAreCounted(t *testing.T) {
	for seed := range uint32(20) {
		lines := drawnLines(seed, 80)
		_, told := expectedOfAll(aDesk(), lines)
		refusals := 0
		for _, output := range told {
			if output == "no" || output == "what" {
				refusals++
			}
		}
		_, outputs, _ := impl.RunDesk(aDesk(), scriptOf(lines))
		want(t, fmt.Sprint("script ", seed), countTold(impl.CountOutputs(outputs)), countTold(int64(refusals), int64(len(lines)-refusals), true))
	}
}
