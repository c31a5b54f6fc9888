package tests

import (
	"cmp"
	"fmt"
	"regexp"
	"slices"
	"strconv"
	"strings"
	"testing"

	"loop.example/g01388/impl"
)

// tray is a desk told by the texts of its parts.
type tray struct {
	spots, strings, cells string
}

// newTray is the new desk.
var newTray = tray{"a,b", "3,4;", "../.."}

func (y tray) desk(t *testing.T) impl.Desk {
	t.Helper()
	return impl.Desk{Sprouts: sprouts(t, y.spots), Ending: ending(t, y.strings), Hex: combOf(y.cells).hex()}
}

// trayOf returns the tray of a desk.
func trayOf(t *testing.T, d impl.Desk) tray {
	t.Helper()
	if !impl.IsDesk(d) {
		t.Fatalf("%v is no desk", d)
	}
	return tray{textOf(t, d.Sprouts), endingText(t, d.Ending), drawn(d.Hex).text()}
}

// changedBy tells which part of a desk a command changes.
func changedBy(command string) string {
	switch command {
	case "spots", "sprouts", "move", "run":
		return "X"
	case "ending", "chain", "loop":
		return "E"
	case "hex", "take", "mirror":
		return "H"
	case "reset":
		return "all"
	}
	return ""
}

// behind returns the tray behind a line, which follows from its output.
func (y tray) behind(line, output string) tray {
	command, _, _ := strings.Cut(line, " ")
	if output == "error" {
		return y
	}
	switch changedBy(command) {
	case "X":
		y.spots = output
	case "E":
		y.strings = output
	case "H":
		y.cells = output
	case "all":
		y = newTray
	}
	return y
}

// wantLine checks the output of a line and the desk behind it.
func wantLine(t *testing.T, d impl.Desk, line, want string) impl.Desk {
	t.Helper()
	before := trayOf(t, d)
	after, output := impl.RunLine(d, line)
	if output != want {
		t.Errorf("%q on %v has the output %q; want %q", line, before, output, want)
	}
	if !impl.IsDesk(after) || trayOf(t, after) != before.behind(line, want) {
		t.Fatalf("%q on %v leads to %v; want %v", line, before, after, before.behind(line, want))
	}
	return after
}

// wantNoDesk checks that a desk is the zero value.
func wantNoDesk(t *testing.T, what string, d impl.Desk) {
	t.Helper()
	if d.Sprouts.Spots != 0 || len(d.Sprouts.Regions) != 0 || len(d.Ending.Chains)+len(d.Ending.Loops) != 0 || d.Hex.Side != 0 || len(d.Hex.Cells) != 0 {
		t.Errorf("%s = %v; want the zero value", what, d)
	}
}

// scene is a list of lines, from the new desk on, each with its output.
type scene [][2]string

// scenes reads texts of lines such as `lives > 6`.
func scenes() map[string]scene {
	texts := map[string]string{
		"two spots": `
			show > a,b
			lives > 6
			moves > 5
			grundy > 0
			lengths > 4 5
			best > error
			move 0 0 0 0 0 2 > ac/ac,b
			show > ac/ac,b
			lives > 5
			moves > 7
			grundy > 2
			lengths > 3 4
			best > 0 0 0 0 1 0
			move 0 0 0 0 1 0 > cad/ac,b/acd
			grundy > 0
			best > error
			run 0 > cad/ebf,ac/acd/be/bef
			lives > 2
			moves > 0
			grundy > 0
			lengths > 0 0
			best > error
			run 1000 > cad/ebf,ac/acd/be/bef
			move 0 0 0 0 0 0 > error
			reset > ok
			show > a,b`,
		"plays of two spots": `
			run 0 > fbg/ac/acd/ebf/bedcadefg
			spots 2 > a,b
			run 1 > ac/ebf/acd/be/fbefgdcadg
			spots 2 > a,b
			run 3 > adcbcde/bc/edaf/aef
			spots 2 > a,b
			run 1000 > ebf/cad/acd/be/bef,ac
			spots 2 > a,b
			run 1001 > error
			run 999999999 > error
			show > a,b`,
		"moves of two spots": `
			move 1 0 0 1 0 0 > error
			move 0 2 0 1 0 0 > error
			move 0 0 1 1 0 0 > error
			move 0 0 0 2 0 0 > error
			move 0 0 0 1 1 0 > error
			move 0 1 0 0 0 0 > error
			move 0 0 0 1 0 1 > error
			move 0 0 0 0 0 1 > error
			move 0 0 0 0 0 3 > error
			move 0 0 0 0 0 4 > error
			move 0 0 0 0 0 999999999 > error
			move 999999999 0 0 0 0 0 > error
			show > a,b
			move 0 0 0 1 0 0 > acbc
			lives > 5
			move 0 0 0 0 2 0 > bcad/acbd
			move 1 0 0 0 0 0 > error`,
		"one spot": `
			spots 1 > a
			lives > 3
			moves > 1
			grundy > 0
			lengths > 2 2
			best > error
			move 0 0 0 0 0 0 > ab/ab
			grundy > 1
			best > 0 0 0 0 1 0
			move 0 0 0 0 1 0 > bac/ab/abc
			best > error`,
		"many spots": `
			spots 0 > error
			spots 7 > error
			spots 999999999 > error
			spots 6 > a,b,c,d,e,f
			lives > 18
			moves > error
			grundy > error
			lengths > error
			best > error
			run 0 > error
			show > a,b,c,d,e,f
			move 0 0 0 5 0 0 > b,c,d,e,agfg
			lives > 17
			spots 7 > error
			spots 3 > a,b,c
			moves > error
			spots 2 > a,b
			moves > 5`,
		"positions of sprouts": `
			sprouts ac/ac,b > ac/ac,b
			lives > 5
			sprouts aaa > aaa
			lives > 0
			moves > 0
			lengths > 0 0
			sprouts /a,/ > error
			sprouts a,,b > error
			sprouts b > error
			sprouts A > error
			sprouts none > error
			sprouts 2 > error
			sprouts / > error
			lives > 0
			sprouts /a/ > /a/
			moves > 1
			move 1 0 0 0 0 0 > /ab//ab
			sprouts ab > ab
			grundy > 1
			sprouts aabbcc,ddd,eee > aabbcc,ddd,eee
			lives > 3
			moves > 48
			grundy > 0
			lengths > 2 2
			best > error
			run 7 > fbccg/aabbf,ddd,eee/cafg`,
		"sprouts at the limits": `
			sprouts abcdefghijklmnopqrst > abcdefghijklmnopqrst
			lives > 40
			move 0 0 0 0 1 0 > error
			run 0 > error
			sprouts abcdefghijklmnopqrstu > error
			sprouts aaabbbcccdddeeefffggghhhiiijjjkkklllmmmnnnooopppqqqrrrss > aaabbbcccdddeeefffggghhhiiijjjkkklllmmmnnnooopppqqqrrrss
			lives > 1
			moves > 0
			grundy > 0
			lengths > 0 0
			sprouts aaabbbcccdddeeefffggghhhiiijjjkkklllmmmnnnooopppqqqrrrssttt > aaabbbcccdddeeefffggghhhiiijjjkkklllmmmnnnooopppqqqrrrssttt
			lives > 1
			moves > error
			grundy > error
			lengths > error
			best > error
			run 5 > error
			sprouts aa,bbb,ccc,ddd,eee,fff,ggg,hhh > aa,bbb,ccc,ddd,eee,fff,ggg,hhh
			moves > 0
			run 0 > aa,bbb,ccc,ddd,eee,fff,ggg,hhh
			sprouts aa,bbb,ccc,ddd,eee,fff,ggg,hhh,iii > aa,bbb,ccc,ddd,eee,fff,ggg,hhh,iii
			lives > 1
			moves > error
			run 0 > error`,
		"the new ending": `
			look > 3,4;
			value > -3
			play > 0 3 1 0;0 4 0 0
			sparing > 3
			long > 2
			loop 3 > error
			loop 4 > error
			chain 0 > error
			chain 5 > error
			chain 999999999 > error
			chain 3 > 4;
			value > -4
			play > 0 4 0 0
			sparing > 4
			long > 1
			chain 3 > error
			chain 4 > ;
			look > ;
			value > 0
			play > none
			sparing > 0
			long > 0
			chain 4 > error
			reset > ok
			value > -3`,
		"endings with loops": `
			ending 1,2,3;4 > 1,2,3;4
			value > 0
			play > 0 1 0 0;0 2 0 1;1 4 0 0;0 3 0 1
			sparing > 2
			long > 1
			chain 4 > error
			loop 3 > error
			loop 0 > error
			loop 4 > 1,2,3;
			chain 2 > 1,3;
			chain 1 > 3;
			ending ;4,4,6 > ;4,4,6
			value > -2
			play > 1 4 0 0;1 4 1 1;1 6 0 1
			sparing > -2
			long > 0
			loop 6 > ;4,4
			loop 4 > ;4
			loop 4 > ;
			loop 4 > error`,
		"endings at the limits": `
			ending 30,30,30,30,30,30,30,30; > 30,30,30,30,30,30,30,30;
			value > -212
			sparing > 212
			long > 8
			ending 30,30,30,30,30,30,30,30,30; > error
			ending 31; > error
			ending 0; > error
			ending ;3 > error
			ending 4,3; > error
			ending 3,4 > error
			ending 03; > error
			ending ;; > error
			ending none > error
			look > 30,30,30,30,30,30,30,30;
			chain 30 > 30,30,30,30,30,30,30;
			ending ; > ;
			long > 0`,
		"the new hex board": `
			see > ../..
			joiner > 0
			mover > 1
			winner > 1
			wins > 1 2
			dead > none
			bridges 1 > none
			bridges 2 > none
			need 1 > 2
			need 2 > 2
			take 1 > .1/..
			see > .1/..
			mover > 2
			winner > 1
			wins > none
			need 1 > 1
			need 2 > 2
			joiner > 0
			take 1 > error
			take 4 > error
			take 2 > .1/2.
			take 2 > error
			take 0 > 11/2.
			joiner > 0
			winner > 2
			wins > 3
			dead > none
			need 1 > 1
			need 2 > 1
			take 3 > 11/22
			take 0 > error
			take 4 > error
			joiner > 2
			mover > 1
			winner > 2
			wins > none
			dead > none
			need 1 > error
			need 2 > 0
			mirror > 21/21
			joiner > 1
			mirror > 11/22
			reset > ok
			see > ../..`,
		"one cell": `
			hex 1 > .
			wins > 0
			winner > 1
			mirror > .
			take 1 > error
			take 0 > 1
			joiner > 1
			mover > 2
			winner > 1
			wins > none
			mirror > 2
			see > 2
			joiner > 2
			dead > none
			mover > error
			winner > error
			wins > error
			take 0 > error
			mirror > 1
			mover > 2`,
		"a hex board that is no position": `
			take 3 > ../.1
			mirror > ../.2
			take 0 > error
			mover > error
			winner > error
			wins > error
			dead > none
			bridges 2 > none
			need 1 > 2
			need 2 > 1
			mirror > ../.1
			mover > 2
			take 2 > ../21`,
		"great hex boards": `
			hex 9 > error
			hex 0 > error
			hex 999999999 > error
			hex 8 > ......../......../......../......../......../......../......../........
			mover > 1
			winner > error
			wins > error
			dead > error
			joiner > 0
			need 1 > 8
			need 2 > 8
			take 64 > error
			take 999999999 > error
			take 63 > ......../......../......../......../......../......../......../.......1
			take 7 > .......2/......../......../......../......../......../......../.......1
			mirror > ......../......../......../......../......../......../......../1......2
			hex 9 > error
			hex 8 > ......../......../......../......../......../......../......../........`,
		"empty cells at the limit": `
			hex 3 > .../.../...
			winner > 1
			wins > 2 3 4 5 6
			dead > none
			hex 4 > ..../..../..../....
			take 5 > ..../.1../..../....
			take 6 > ..../.12./..../....
			take 9 > ..../.12./.1../....
			take 10 > ..../.12./.12./....
			take 0 > 1.../.12./.12./....
			take 1 > 12../.12./.12./....
			winner > error
			wins > error
			dead > error
			need 1 > 2
			take 2 > 121./.12./.12./....
			winner > 1`,
		"dead cells": `
			hex 3 > .../.../...
			take 4 > .../.1./...
			take 0 > 2../.1./...
			take 2 > 2.1/.1./...
			take 8 > 2.1/.1./..2
			take 7 > 2.1/.1./.12
			bridges 1 > none
			bridges 0 > error
			bridges 3 > error
			need 0 > error
			need 3 > error
			need 1 > 0
			need 2 > error
			dead > 1 3 5 6
			wins > none
			mirror > 1../.22/2.1
			take 1 > error
			dead > 1 2 3 7
			need 1 > error
			need 2 > 0
			joiner > 2`,
		"bridges": `
			hex 5 > ...../...../...../...../.....
			take 12 > ...../...../..1../...../.....
			take 0 > 2..../...../..1../...../.....
			take 3 > 2..1./...../..1../...../.....
			take 1 > 22.1./...../..1../...../.....
			take 21 > 22.1./...../..1../...../.1...
			bridges 1 > 3 12;12 21
			bridges 2 > none
			take 7 > 22.1./..2../..1../...../.1...
			bridges 1 > 12 21
			take 20 > 22.1./..2../..1../...../11...
			mirror > 1...2/1...2/.12../2..../.....
			bridges 2 > 9 12
			bridges 1 > 5 11
			bridges 999999999 > error`,
		"numbers": `
			turns 2 2 1 > 10
			turns 1 1 0 > 4
			turns 3 7 2 > 34
			turns 1000 1000 500000 > 1502001
			turns 1000 1000 500001 > error
			turns 1001 1 0 > error
			turns 1 1001 0 > error
			turns 0 1 0 > error
			turns 1 0 0 > error
			turns 1 1 1 > error
			turns 5 5 12 > 48
			turns 5 5 13 > error
			turns 1 1 999999999 > error
			parts 4 2 > 1 3
			parts 1 1 > 1
			parts 6 3 > 1 2 3
			parts 20 1 > 20
			parts 20 6 > 1 1 1 1 1 15
			parts 21 1 > error
			parts 0 0 > error
			parts 5 0 > error
			parts 1 2 > error
			parts 7 7 > error
			crosses 4 4 > 8 1
			crosses 4 > 3 0
			crosses 1 > 0 1
			crosses 1 1 > 2 1
			crosses 2 1 > 3 0
			crosses 1000 > 999 0
			crosses > error
			crosses 0 > error
			crosses 4 0 > error
			crosses 1001 > error
			mex > 0
			mex 0 > 1
			mex 1 > 0
			mex 0 1 3 > 2
			mex 3 2 1 0 > 4
			mex 1 1 0 0 > 2
			mex 999999999 > 0
			mex 1000000000 > error
			mex 0 1 00 > error
			nim > 0
			nim 0 > 0
			nim 3 5 > 6
			nim 1 2 4 8 > 15
			nim 999999999 > 999999999
			nim 999999999 999999999 > 0
			nim 1000000000 > error
			nim 3 05 > error`,
		"all parts": `
			spots 1 > a
			chain 4 > 3;
			hex 1 > .
			show > a
			look > 3;
			see > .
			take 0 > 1
			move 0 0 0 0 0 0 > ab/ab
			ending ;5 > ;5
			lives > 2
			value > -5
			joiner > 1
			fly > error
			mex 0 > 1
			show > ab/ab
			look > ;5
			see > 1
			reset > ok
			show > a,b
			look > 3,4;
			see > ../..
			reset > ok`,
	}
	read := map[string]scene{}
	for name, text := range texts {
		for _, row := range strings.Split(strings.TrimSpace(text), "\n") {
			line, output, _ := strings.Cut(strings.TrimSpace(row), " > ")
			read[name] = append(read[name], [2]string{line, output})
		}
	}
	return read
}

func TestConsoleConstants(t *testing.T) {
	if impl.MaxConsole != 4000 || impl.MaxLines != 40 {
		t.Errorf("MaxConsole, MaxLines are %d, %d", impl.MaxConsole, impl.MaxLines)
	}
}

func TestNewDesk(t *testing.T) {
	d := impl.NewDesk()
	wantSprouts(t, "the sprouts position of NewDesk", d.Sprouts, impl.ErrNone, "a,b")
	wantEnding(t, "the ending of NewDesk", d.Ending, impl.ErrNone, impl.Ending{Chains: []int64{3, 4}})
	wantHex(t, "the hex board of NewDesk", d.Hex, impl.ErrNone, "../..")
	if !impl.IsDesk(d) {
		t.Errorf("%v is no desk", d)
	}
}

// badDesks returns desks of which one part is not as told, and each of these parts beside wrong ones.
func badDesks() map[string]impl.Desk {
	bad := map[string]impl.Desk{"zero value": {}}
	good := impl.NewDesk()
	for name, x := range badSprouts() {
		bad["sprouts: "+name] = impl.Desk{Sprouts: x, Ending: good.Ending, Hex: good.Hex}
		bad["only the ending, sprouts: "+name] = impl.Desk{Sprouts: x, Ending: good.Ending}
	}
	for name, x := range badEndings() {
		bad["ending: "+name] = impl.Desk{Sprouts: good.Sprouts, Ending: x, Hex: good.Hex}
		bad["only sprouts, ending: "+name] = impl.Desk{Sprouts: good.Sprouts, Ending: x}
	}
	for name, x := range badHexes() {
		bad["hex: "+name] = impl.Desk{Sprouts: good.Sprouts, Ending: good.Ending, Hex: x}
		bad["only the ending, hex: "+name] = impl.Desk{Ending: good.Ending, Hex: x}
	}
	return bad
}

// goodTrays returns desks of many kinds.
func goodTrays() []tray {
	return []tray{
		newTray, {"a", ";", "."}, {"/a/", ";4", "1"}, {"ac/ac,b", "1,2,3;4", "2"}, {"abcdefghijklmnopqrst", ";30", "22/22"},
		{"aaa", "1,1,1,1;4,4,4,4", "..1/.2./1.2"}, {"///a,b,c,d,e,f", "30,30,30,30,30,30,30,30;", cut(8, []byte(strings.Repeat(".", 64))).text()},
		{"cad/ebf,ac/acd/be/bef", ";4,4,6", "..../.12./.12./...."}, {"ab,ab,cd/cd,e", "3;4", "12/21"},
	}
}

func TestIsDesk(t *testing.T) {
	for _, y := range goodTrays() {
		if !impl.IsDesk(y.desk(t)) {
			t.Errorf("%v is a desk", y)
		}
	}
	empty := newTray.desk(t)
	empty.Ending = impl.Ending{}
	if !impl.IsDesk(empty) {
		t.Error("a desk may have an ending that is over")
	}
	for name, d := range badDesks() {
		if impl.IsDesk(d) {
			t.Errorf("%s is no desk", name)
		}
	}
}

func TestLinesOnNoDesk(t *testing.T) {
	lines := []string{"show", "look", "see", "reset", "value", "lives", "joiner", "spots 2", "ending 3;", "hex 2", "mirror", "take 0", "mex", "nim 3 5", "fly", "", " "}
	for name, d := range badDesks() {
		for _, line := range lines {
			before := fmt.Sprint(d)
			after, output := impl.RunLine(d, line)
			wantNoDesk(t, fmt.Sprintf("the desk behind %q on %s", line, name), after)
			if output != "" || fmt.Sprint(d) != before {
				t.Errorf("%q on %s has the output %q", line, name, output)
			}
		}
	}
}

func TestScenes(t *testing.T) {
	done := map[string]int{}
	for name, rows := range scenes() {
		d := impl.NewDesk()
		text, outputs := "", ""
		for _, row := range rows {
			d = wantLine(t, d, row[0], row[1])
			text += row[0] + "\n"
			outputs += row[1] + "\n"
			command, _, _ := strings.Cut(row[0], " ")
			done[command]++
		}
		if len(rows) <= 40 {
			wantConsole(t, name, text, outputs, trayOf(t, d))
		}
	}
	for _, form := range lineForms {
		if command, _, _ := strings.Cut(form, " "); done[command] < 2 {
			t.Errorf("%d lines with the command %s", done[command], command)
		}
	}
}

// wantConsole checks the outputs of a text, and the desk behind it.
func wantConsole(t *testing.T, what, text, want string, wantTray tray) {
	t.Helper()
	if got := impl.Console(text); got != want {
		t.Errorf("Console, %s = %q; want %q", what, got, want)
	}
	d, ok := impl.DeskAfter(text)
	if !ok || !impl.IsDesk(d) || trayOf(t, d) != wantTray {
		t.Errorf("DeskAfter, %s = %v, %t; want %v", what, d, ok, wantTray)
	}
}

// lineForms are the forms of all lines: # is a number, and #.. stands for any number of them.
var lineForms = []string{
	"spots #", "sprouts TEXT", "move # # # # # #", "run #", "ending TEXT", "chain #", "loop #", "hex #", "take #", "mirror",
	"show", "look", "see", "lives", "moves", "grundy", "lengths", "best", "value", "play", "sparing", "long", "turns # # #", "parts # #",
	"joiner", "mover", "winner", "wins", "dead", "bridges #", "need #", "crosses #..", "mex #..", "nim #..", "reset",
}

// rightForm matches the lines that have one of the forms.
var rightForm = func() *regexp.Regexp {
	var forms []string
	for _, form := range lineForms {
		form = strings.ReplaceAll(form, " #..", "( #)*")
		form = strings.ReplaceAll(form, "#", "(0|[1-9][0-9]{0,8})")
		forms = append(forms, strings.ReplaceAll(form, "TEXT", "[^ ]+"))
	}
	return regexp.MustCompile("^(" + strings.Join(forms, "|") + ")$")
}()

// told returns the output of a line that has a right form, and the desk behind it, in a second way:
// word by word as the document's table tells them.
func told(t *testing.T, y tray, line string) (tray, string) {
	t.Helper()
	if !rightForm.MatchString(line) {
		return y, "error"
	}
	d := y.desk(t)
	command, rest, _ := strings.Cut(line, " ")
	output, code := changed(&d, command, rest)
	if output == "" {
		output, code = asked(d, command, numbers(rest))
	}
	if code != impl.ErrNone {
		return y, "error"
	}
	after := trayOf(t, d)
	switch output {
	case "X":
		output = after.spots
	case "E":
		output = after.strings
	case "H":
		output = after.cells
	}
	return after, output
}

// changed does what a line changes on a desk. X, E and H stand for the texts of the parts; it
// returns no output for other lines.
func changed(d *impl.Desk, command, rest string) (output string, code int64) {
	n := append(numbers(rest), 0)
	switch command {
	case "spots":
		d.Sprouts, code = impl.StartOf(n[0])
	case "sprouts":
		d.Sprouts, code = impl.ParseSprouts(rest)
	case "move":
		d.Sprouts, code = impl.MakeSproutMove(d.Sprouts, n[:6])
	case "run":
		d.Sprouts, _, code = impl.PlaySprouts(d.Sprouts, n[0])
	case "ending":
		d.Ending, code = impl.ParseEnding(rest)
	case "chain", "loop":
		d.Ending, code = impl.AfterOpening(d.Ending, command == "loop", n[0])
	case "hex":
		if n[0] < 1 || n[0] > 8 {
			return "H", impl.ErrRange
		}
		d.Hex = impl.Hex{Side: n[0], Cells: repeat(0, int(n[0]*n[0]))}
	case "take":
		if n[0] >= int64(len(d.Hex.Cells)) || d.Hex.Cells[n[0]] != 0 {
			return "H", impl.ErrState
		}
		d.Hex.Cells[n[0]], code = impl.HexMover(d.Hex)
	case "mirror":
		d.Hex, code = impl.MirrorHex(d.Hex)
	case "reset":
		*d = impl.NewDesk()
		return "ok", impl.ErrNone
	}
	return changedBy(command), code
}

// asked returns what a line asks for.
func asked(d impl.Desk, command string, n []int64) (string, int64) {
	switch command {
	case "show":
		return "X", impl.ErrNone
	case "look":
		return "E", impl.ErrNone
	case "see":
		return "H", impl.ErrNone
	case "lives":
		return written(impl.LivesOf(d.Sprouts))
	case "moves":
		moves, code := impl.SproutMoves(d.Sprouts)
		return written(len(moves), code)
	case "grundy":
		return written(impl.SproutGrundy(d.Sprouts))
	case "lengths":
		least, most, code := impl.SproutLengths(d.Sprouts)
		return written([]int64{least, most}, code)
	case "best":
		return written(impl.FirstWinningMove(d.Sprouts))
	case "value":
		return written(impl.EndingValue(d.Ending))
	case "play":
		return written(impl.PlayEnding(d.Ending))
	case "sparing":
		return written(impl.SparingNumber(d.Ending))
	case "long":
		return written(impl.CountLong(d.Ending))
	case "turns":
		return written(impl.TurnsOf(n[0], n[1], n[2]))
	case "parts":
		return written(impl.BestParts(n[0], n[1]))
	case "joiner":
		return written(impl.JoinerOf(d.Hex))
	case "mover":
		return written(impl.HexMover(d.Hex))
	case "winner":
		return written(impl.HexWinner(d.Hex))
	case "wins":
		return written(impl.HexMoves(d.Hex))
	case "dead":
		return written(impl.DeadCells(d.Hex))
	case "bridges":
		return written(impl.HexBridges(d.Hex, n[0]))
	case "need":
		return written(impl.NeedOf(d.Hex, n[0]))
	case "crosses":
		winner, _ := impl.CrossWinner(n)
		moves, code := impl.CrossMoves(n)
		return written([]int64{moves, winner}, code)
	case "mex":
		return written(impl.MexOf(n))
	}
	return written(impl.NimSumOf(n))
}

// written writes a number, a list, or a list of lists.
func written[T any](result T, code int64) (string, int64) {
	text := strings.ReplaceAll(fmt.Sprint(result), "] [", ";")
	return cmp.Or(strings.Trim(text, "[]"), "none"), code
}

// wantTold checks a line against the second way, and returns the desk behind it and its output.
func wantTold(t *testing.T, d impl.Desk, line string) (impl.Desk, string) {
	t.Helper()
	before := trayOf(t, d)
	wantTray, want := told(t, before, line)
	after, output := impl.RunLine(d, line)
	if output != want || !impl.IsDesk(after) || trayOf(t, after) != wantTray {
		t.Fatalf("%q on %v has the output %q and leads to %v; want %q and %v", line, before, output, after, want, wantTray)
	}
	return after, output
}

// plainTray is a desk on which there is a right line of each form.
var plainTray = tray{"ac/ac,b", "3;4", ".1/2."}

// rightLines returns such a line of each form.
func rightLines() []string {
	return []string{
		"spots 2", "sprouts a,b", "move 0 0 0 0 1 0", "run 5", "ending 3;5", "chain 3", "loop 4", "hex 3", "take 0", "mirror",
		"show", "look", "see", "lives", "moves", "grundy", "lengths", "best", "value", "play", "sparing", "long", "turns 2 2 1", "parts 4 2",
		"joiner", "mover", "winner", "wins", "dead", "bridges 1", "need 2", "crosses 4 4", "mex 0 1 3", "nim 3 5", "reset",
	}
}

func TestRightLines(t *testing.T) {
	for _, line := range append(rightLines(), "crosses 1", "mex", "mex 0", "nim", "nim 7") {
		if _, output := wantTold(t, plainTray.desk(t), line); output == "error" {
			t.Errorf("%q has the output error", line)
		}
	}
}

// wantWrong checks that the output of a line is error, on some desks that stay as they are.
func wantWrong(t *testing.T, line string) {
	t.Helper()
	for _, y := range []tray{plainTray, newTray} {
		wantLine(t, y.desk(t), line, "error")
	}
}

func TestLinesThatAreNone(t *testing.T) {
	lines := []string{
		"", " ", "  ", "\n", "\t", "\r", "\x00", "0", "1", "-3", "error", "ok", "none", "yes", "no", "fly", "X", "x", "X E H", "spot 2", "sprout a", "moved", "move 0", "chains 3", "loops 4",
		"hexes 3", "taken 0", "mirrored", "shows", "sho", "s", "life", "live", "length", "values", "plays", "part 4 2", "bridge 1", "needs 2", "cross 4 4", "new", "quit", "help", "undo",
		"\xff\xfe", "\xc3", "größe", "ｓｈｏｗ", "show\u00a0", "\u2003show", "chain\u00a03", "show;look", "show\nlook", "show\r\nlook", "value\n", "\nvalue", "value\r", "value\x00", "value\x00 ", "valu\x00e", "#", "// show",
	}
	for _, line := range lines {
		wantWrong(t, line)
	}
}

func TestLinesWithWrongWords(t *testing.T) {
	for k, line := range rightLines() {
		words := strings.Split(line, " ")
		command := words[0]
		isOpenEnded := strings.HasSuffix(lineForms[k], "..")
		wantWrong(t, strings.ToUpper(line))
		wantWrong(t, strings.ToUpper(command)+strings.TrimPrefix(line, command))
		wantWrong(t, strings.ToUpper(line[:1])+line[1:])
		for _, ahead := range []string{" ", "  ", "\t", "\n", "0 ", "\x00", "\ufeff"} {
			wantWrong(t, ahead+line)
		}
		for _, after := range []string{" ", "  ", "\t", "\n", "\r", "\r\n", "\x00", " x", " \x00", "  0", " 0 ", " -1", " show", " \u00e9", "\v"} {
			wantWrong(t, line+after)
		}
		if !isOpenEnded {
			wantWrong(t, line+" 0")
			wantWrong(t, line+" 1 2")
			if len(words) > 1 {
				wantWrong(t, strings.Join(words[:len(words)-1], " "))
				wantWrong(t, command)
			}
		}
		for k := 1; k < len(words); k++ {
			ahead, behind := strings.Join(words[:k], " "), strings.Join(words[k:], " ")
			for _, between := range []string{"  ", "   ", "\t", " \t", "\t ", "\n", "\x00", ",", "\u00a0"} {
				wantWrong(t, ahead+between+behind)
			}
			if !isOpenEnded {
				wantWrong(t, ahead+behind)
			}
		}
	}
}

func TestLinesWithWrongNumbers(t *testing.T) {
	asked := 0
	for k, line := range rightLines() {
		if !strings.Contains(lineForms[k], "#") {
			continue
		}
		words := strings.Split(line, " ")
		for place := 1; place < len(words); place++ {
			right := words[place]
			wrong := []string{
				"", "0" + right, "00" + right, "+" + right, "-" + right, "-0", "00", "000000000", "0000000001", right + ".", right + ".0", "." + right, right + "e0", "0x" + right, "0b1", "0o1", "1_0", right + "_", right + ",", right + ";",
				"x", "a", "one", "none", "NaN", "Inf", "½", "１", "٣", "²", "1000000000", "9999999999", "4294967296", "4294967297", "9223372036854775807", "9223372036854775808", "18446744073709551616", "18446744073709551617", "-1", "-9223372036854775808", strings.Repeat("1", 100),
				right + "\x00", "\x00" + right, right + "\t", "\t" + right, right + "\n", "\n" + right, right + "\xff", "#", "N",
			}
			for _, word := range wrong {
				words[place] = word
				wantWrong(t, strings.Join(words, " "))
				asked++
			}
			words[place] = right
		}
	}
	if asked < 1000 {
		t.Errorf("only %d lines", asked)
	}
}

// Numbers have at most nine digits.
func TestLinesWithGreatNumbers(t *testing.T) {
	for line, want := range map[string]string{
		"nim 0": "0", "nim 1": "1", "nim 999999999": "999999999", "nim 100000000": "100000000", "nim 1000000000": "error", "nim 0999999999": "error", "nim 1 999999999 1": "999999999",
		"mex 0": "1", "mex 999999999": "0", "mex 999999999 0 1": "2", "mex 1000000000": "error", "mex 0 1000000000": "error", "mex 1000000000 0": "error",
	} {
		wantLine(t, plainTray.desk(t), line, want)
	}
	// What has nine digits is a number, but too great for these.
	for _, line := range rightLines() {
		if words := strings.Split(line, " "); len(words) > 1 && words[0] != "mex" && words[0] != "nim" {
			for k := 1; k < len(words); k++ {
				wantWrong(t, strings.Join(slices.Replace(slices.Clone(words), k, k+1, "999999999"), " "))
			}
		}
	}
}

// Lines are not limited, but lists of numbers are.
func TestLinesWithManyNumbers(t *testing.T) {
	d := plainTray.desk(t)
	wantLine(t, d, "mex"+strings.Repeat(" 0", 1000), "1")
	wantLine(t, d, "mex"+strings.Repeat(" 0", 1001), "error")
	wantLine(t, d, "nim"+strings.Repeat(" 5", 999), "5")
	wantLine(t, d, "nim"+strings.Repeat(" 5", 1000), "0")
	wantLine(t, d, "nim"+strings.Repeat(" 5", 1001), "error")
	wantLine(t, d, "crosses"+strings.Repeat(" 1", 100), "198 1")
	wantLine(t, d, "crosses"+strings.Repeat(" 1", 101), "error")
	wantLine(t, d, "crosses"+strings.Repeat(" 1000", 100), "100098 1")
	wantLine(t, d, "nim "+strings.TrimPrefix(strings.Repeat(" 999999999", 1000), " "), "0")
	wantLine(t, d, strings.Repeat("x", 100000), "error")
	wantLine(t, d, strings.Repeat(" ", 100000), "error")
	wantLine(t, d, "sprouts "+strings.Repeat("/", 5000)+"a", strings.Repeat("/", 5000)+"a")
	wantLine(t, d, "sprouts "+strings.Repeat("a", 5000), "error")
	wantLine(t, d, "ending "+strings.Repeat("3,", 5000)+"3;", "error")
}

// Lines with the output error for each code that a function can return beside a desk.
func TestLinesThatFunctionsRefuse(t *testing.T) {
	lines := map[tray]string{
		{"a,b,c", "3,4;", "12/21"}: "moves,grundy,lengths,best,run 0,run 1001,spots 0,spots 7,sprouts b,move 1 0 0 1 0 0,move 0 0 0 3 0 0,move 0 0 0 1 0 1,chain 5,chain 0,loop 3,loop 4,ending 3,ending 31;," +
			"hex 0,hex 9,take 0,take 4,turns 0 1 0,turns 1 1 1,turns 1001 1 1,parts 0 0,parts 3 4,parts 21 2,parts 9 7,bridges 0,bridges 3,need 0,need 3,need 1,crosses,crosses 0,crosses 4 1001",
		{"a", ";4", "2"}:                                 "best,mover,winner,wins,take 0,take 1,need 1,chain 4,loop 5",
		{"ab", ";", "../2."}:                             "mover,winner,wins,take 0,take 1,take 3,chain 3,loop 4,run 1001,move 0 0 0 0 1 1,move 0 0 0 0 2 0,move 0 1 0 1 0 0",
		{"ab", ";", "111/.../..."}:                       "mover,winner,wins,take 3",
		{"ab", ";", "..../..../..../...."}:               "winner,wins,dead,take 16",
		{"ab", ";", "1.../.2../..1./...2"}:               "winner,wins,dead,take 0,take 5",
		{"abcdefghijklmnopqrst", ";", "."}:               "move 0 0 0 0 1 0,moves,run 0,grundy,lengths,best",
		{"aa,bbb,ccc,ddd,eee,fff,ggg,hhh,iii", ";", "."}: "moves,run 0,grundy,lengths,best",
		{"aaabbbcccdddeeefffggghhhiiijjjkkklllmmmnnnooopppqqqrrrssstt", ";", "."}: "moves,run 0,grundy,lengths,best,move 0 0 57 0 58 0",
	}
	for y, texts := range lines {
		for _, line := range strings.Split(texts, ",") {
			if after, output := impl.RunLine(y.desk(t), line); output != "error" || trayOf(t, after) != y {
				t.Errorf("%q on %v has the output %q and leads to %v", line, y, output, after)
			}
		}
	}
}

// Each change of one byte of a right line leads to what the second way tells.
func TestChangedLines(t *testing.T) {
	d := plainTray.desk(t)
	right := 0
	for _, line := range rightLines() {
		for text := range changedTexts(line) {
			want := rightForm.MatchString(text)
			if want {
				right++
				wantTold(t, d, text)
			} else if _, output := impl.RunLine(d, text); output != "error" {
				t.Errorf("%q has the output %q", text, output)
			}
		}
	}
	if right < 200 {
		t.Errorf("only %d lines are right", right)
	}
}

// drawnNumber draws small numbers mostly.
func drawnNumber(d *dice) string {
	greatest := []int64{2, 4, 9, 9, 20, 1100, 999999999}[d.below(7)]
	return strconv.FormatInt(d.below(greatest+1), 10)
}

// drawnText draws texts of positions and of endings, and some that are none.
func drawnText(d *dice, t *testing.T, command string) string {
	if d.below(8) == 0 {
		return []string{"", "a,", "b", "3", "3;3", "aaaa", ";;", "/", "4,3;", "A", "0;"}[d.below(11)]
	}
	if command == "sprouts" {
		return textOf(t, randomPosition(d))
	}
	x := impl.Ending{}
	for range d.below(5) {
		x.Chains = append(x.Chains, 1+d.below(7))
	}
	for range d.below(4) {
		x.Loops = append(x.Loops, 4+d.below(7))
	}
	slices.Sort(x.Chains)
	slices.Sort(x.Loops)
	return endingText(t, x)
}

// drawnWords draws the words behind a command, mostly such that the line is right.
func drawnWords(d *dice, t *testing.T, y tray, form []string) []string {
	command := form[0]
	if d.below(4) > 0 {
		switch command {
		case "move":
			if moves := pencil(y.spots).moves(); len(moves) > 0 {
				return strings.Fields(strings.Trim(fmt.Sprint(moves[d.below(int64(len(moves)))]), "[]"))
			}
		case "chain", "loop":
			chains, loops, _ := strings.Cut(y.strings, ";")
			boxes := strings.Split(map[string]string{"chain": chains, "loop": loops}[command], ",")
			return boxes[d.below(int64(len(boxes))):][:1]
		}
	}
	var words []string
	for _, word := range form[1:] {
		switch word {
		case "#":
			words = append(words, drawnNumber(d))
		case "#..":
			for range d.below(6) {
				words = append(words, drawnNumber(d))
			}
		default:
			words = append(words, drawnText(d, t, command))
		}
	}
	return words
}

// drawnLine draws a line; some of them have a word too many or too few, or a byte that is wrong.
func drawnLine(d *dice, t *testing.T, y tray) string {
	form := strings.Fields(lineForms[d.below(int64(len(lineForms)))])
	line := strings.Join(append(form[:1:1], drawnWords(d, t, y, form)...), " ")
	if d.below(12) > 0 {
		return line
	}
	at := d.below(int64(len(line)) + 1)
	wrong := []string{" ", "0", "a", " 1", "\t", "\x00", "\xff", "-", ""}[d.below(9)]
	return line[:at] + wrong + line[min(int(at)+int(d.below(3)), len(line)):]
}

// sessions returns lists of lines that are drawn, each one for the desk behind those before it.
func sessions(t *testing.T, count, length int) [][]string {
	t.Helper()
	var d dice = 11
	var all [][]string
	for range count {
		y := newTray
		var lines []string
		for range length {
			line := drawnLine(&d, t, y)
			y, _ = told(t, y, line)
			lines = append(lines, line)
		}
		all = append(all, lines)
	}
	return all
}

// Lines lead from desks to desks, those with the output error to the same desk, and the console
// joins the outputs of its lines.
func TestSessions(t *testing.T) {
	right, wrong, joined := map[string]int{}, map[string]int{}, 0
	for k, lines := range sessions(t, 400, 40) {
		d := impl.NewDesk()
		outputs := ""
		for _, line := range lines {
			before := trayOf(t, d)
			var output string
			d, output = wantTold(t, d, line)
			command, _, _ := strings.Cut(line, " ")
			if output == "error" {
				wrong[command]++
				if trayOf(t, d) != before {
					t.Errorf("%q has the output error, but changes %v to %v", line, before, d)
				}
			} else {
				right[command]++
			}
			if line != "" {
				outputs += output + "\n"
			}
		}
		if text := strings.Join(lines, "\n") + strings.Repeat("\n", k%2); len(text) <= 4000 {
			wantConsole(t, "a session", text, outputs, trayOf(t, d))
			joined++
		}
	}
	for _, form := range lineForms {
		command, _, _ := strings.Cut(form, " ")
		isNeverRefused := slices.Contains(strings.Fields("mirror show look see lives value play sparing long joiner reset"), form)
		if right[command] < 60 || wrong[command] < 5 && !isNeverRefused {
			t.Errorf("%s: %d right lines and %d wrong ones", command, right[command], wrong[command])
		}
	}
	if joined < 300 {
		t.Errorf("only %d texts", joined)
	}
}

func TestTexts(t *testing.T) {
	texts := map[string]string{
		"": "", "\n": "", "\n\n\n": "", "value": "-3\n", "value\n": "-3\n", "value\n\n": "-3\n", "\nvalue": "-3\n", "\n\nvalue\n\n\n": "-3\n",
		"value\nlook": "-3\n3,4;\n", "value\nlook\n": "-3\n3,4;\n", "value\n\n\nlook\n\n": "-3\n3,4;\n",
		" ": "error\n", " \n": "error\n", "\n \n\n": "error\n", " \n \n": "error\nerror\n", "\t\n": "error\n", "\r\n": "error\n", "value\r\nvalue": "error\n-3\n", "value\rvalue": "error\n",
		"value ": "error\n", "value \nvalue": "error\n-3\n", "value\n value": "-3\nerror\n",
		"\x00": "error\n", "\x00\n": "error\n", "value\x00": "error\n", "value\x00\nvalue\n\x00": "error\n-3\nerror\n", "mex 0\x00": "error\n", "mex\x000": "error\n",
		"größe\nvalue": "error\n-3\n", "\xff\nvalue\n\xfe": "error\n-3\nerror\n", "value\u2028value": "error\n", "value\u0085": "error\n", "value\vvalue\f": "error\n", "\ufeffvalue": "error\n",
		"fly": "error\n", "fly\nfly": "error\nerror\n", "value;look": "error\n", "value\nfly\nlook": "-3\nerror\n3,4;\n",
		"chain 3\nvalue": "4;\n-4\n", "value\nchain 3": "-3\n4;\n", "chain 3\nchain 3\nchain 4\nlook\nplay": "4;\nerror\n;\n;\nnone\n",
		"take 1\n\ntake 1\ntake 0\nsee": ".1/..\nerror\n21/..\n21/..\n", "hex 1\nspots 1\nending ;4\n": ".\na\n;4\n", "hex 1\nreset\nsee": ".\nok\n../..\n",
		"mex\nnim\nmex 0 1\nnim 1 2": "0\n0\n2\n3\n",
	}
	for text, want := range texts {
		y := newTray
		outputs := strings.Split(want, "\n")
		for line := range strings.SplitSeq(text, "\n") {
			if line != "" {
				y = y.behind(line, outputs[0])
				outputs = outputs[1:]
			}
		}
		wantConsole(t, strconv.Quote(text), text, want, y)
	}
}

// wantRefused checks that a text is beyond the limits.
func wantRefused(t *testing.T, what, text string) {
	t.Helper()
	if got := impl.Console(text); got != "" {
		t.Errorf("Console, %s = %q; want nothing", what, got)
	}
	d, ok := impl.DeskAfter(text)
	if ok {
		t.Errorf("DeskAfter, %s: true", what)
	}
	wantNoDesk(t, "DeskAfter, "+what, d)
}

func TestNumbersOfLines(t *testing.T) {
	repeated := strings.Repeat
	wantConsole(t, "40 lines", repeated("value\n", 40), repeated("-3\n", 40), newTray)
	wantConsole(t, "40 lines without the last newline", repeated("value\n", 39)+"value", repeated("-3\n", 40), newTray)
	wantConsole(t, "40 empty lines", repeated("\n", 40), "", newTray)
	wantConsole(t, "39 empty lines and one more", repeated("\n", 39)+"value", "-3\n", newTray)
	wantConsole(t, "39 empty lines and one more that ends", repeated("\n", 39)+"chain 3\n", "4;\n", tray{"a,b", "4;", "../.."})
	wantConsole(t, "one line and 39 empty ones", "chain 4\n"+repeated("\n", 39), "3;\n", tray{"a,b", "3;", "../.."})
	wantConsole(t, "20 lines between empty ones", repeated("\nlook\n", 20), repeated("3,4;\n", 20), newTray)
	wantConsole(t, "40 wrong lines", repeated(" \n", 40), repeated("error\n", 40), newTray)

	wantRefused(t, "41 lines", repeated("value\n", 41))
	wantRefused(t, "41 lines without the last newline", repeated("value\n", 40)+"value")
	wantRefused(t, "41 empty lines", repeated("\n", 41))
	wantRefused(t, "40 empty lines and one more", repeated("\n", 40)+"value")
	wantRefused(t, "40 empty lines and a wrong one", repeated("\n", 40)+" ")
	wantRefused(t, "40 empty lines and one more that ends", repeated("\n", 40)+"value\n")
	wantRefused(t, "one line and 40 empty ones", "value\n"+repeated("\n", 40))
	wantRefused(t, "21 lines between empty ones", repeated("\nlook\n", 21))
	wantRefused(t, "41 wrong lines", repeated(" \n", 41))
	wantRefused(t, "many lines", repeated("look\n", 800))
	wantRefused(t, "4000 lines", repeated("\n", 4000))
}

func TestNumbersOfBytes(t *testing.T) {
	repeated := strings.Repeat
	wide := tray{"a,b", "3,4;", "......../......../......../......../......../......../......../........"}
	accepted := map[string]string{
		"x": "error\n", "value\n": "-3\nerror\n", "hex 8\nhex 8\nhex 8\n": repeated(wide.cells+"\n", 3) + "error\n",
	}
	for ahead, want := range accepted {
		y := newTray
		if strings.HasPrefix(ahead, "hex") {
			y = wide
		}
		filled := ahead + repeated("y", 4000-len(ahead))
		wantConsole(t, "4000 bytes", filled, want, y)
		wantConsole(t, "3999 bytes", filled[:3999], want, y)
		wantConsole(t, "4000 bytes with a newline at the end", filled[:3999]+"\n", want, y)
		wantRefused(t, "4001 bytes", filled+"y")
		wantRefused(t, "4001 bytes with a newline at the end", filled+"\n")
		wantRefused(t, "4002 bytes", filled+"yy")
		wantRefused(t, "4001 bytes, an empty line at the start", "\n"+filled)
	}
	numbers := "nim" + repeated(" 999999999", 399) + " 123456"
	wantConsole(t, "4000 bytes of numbers", numbers, strconv.Itoa(999999999^123456)+"\n", newTray)
	wantRefused(t, "4001 bytes of numbers", numbers+"7")
	wantRefused(t, "4001 bytes of numbers and a newline", numbers+"\n")
	// The bytes count, not the letters.
	wantConsole(t, "2000 letters of two bytes", repeated("é", 2000), "error\n", newTray)
	wantRefused(t, "2000 letters of two bytes, and one more byte", repeated("é", 2000)+"x")
	wantRefused(t, "1334 letters of three bytes", repeated("€", 1334))
	wantRefused(t, "2001 letters of two bytes", "value\n"+repeated("é", 2001))
	wantConsole(t, "4000 bytes 0", repeated("\x00", 4000), "error\n", newTray)
	wantRefused(t, "4001 bytes 0", repeated("\x00", 4001))
	wantRefused(t, "a great text", repeated("value\n", 1<<17))
	wantRefused(t, "40 lines of 101 bytes", repeated(repeated("x", 100)+"\n", 40))
	wantConsole(t, "40 lines of 100 bytes", repeated(repeated("x", 99)+"\n", 40), repeated("error\n", 40), newTray)
	wantRefused(t, "41 lines of 100 bytes", repeated(repeated("x", 99)+"\n", 41))
}

// addresses returns those of all elements of a list, and of the room behind them.
func addresses[T any](list []T) []any {
	var all []any
	list = list[:cap(list)]
	for k := range list {
		all = append(all, &list[k])
	}
	return all
}

// memoryOf returns the addresses of all memory that a desk has.
func memoryOf(d impl.Desk) []any {
	all := slices.Concat(addresses(d.Sprouts.Regions), addresses(d.Ending.Chains), addresses(d.Ending.Loops), addresses(d.Hex.Cells))
	for _, region := range d.Sprouts.Regions {
		all = append(all, addresses(region)...)
		for _, boundary := range region {
			all = append(all, addresses(boundary)...)
		}
	}
	return all
}

// wantMemoryApart checks that no two slices of some desks share memory.
func wantMemoryApart(t *testing.T, what string, desks ...impl.Desk) {
	t.Helper()
	seen := map[any]bool{}
	for _, d := range desks {
		for _, address := range memoryOf(d) {
			if seen[address] {
				t.Errorf("%s: memory is shared in %v", what, desks)
				return
			}
			seen[address] = true
		}
	}
}

// roomyDesk returns a copy of a desk with spare capacity behind all its lists, and a function that
// reports whether all their memory is as it was.
func roomyDesk(d impl.Desk) (impl.Desk, func() bool) {
	x, isSame := roomySprouts(d.Sprouts)
	chains, allChains := roomy(d.Ending.Chains)
	loops, allLoops := roomy(d.Ending.Loops)
	cells, allCells := roomy(d.Hex.Cells)
	before := fmt.Sprint(allChains, allLoops, allCells)
	copied := impl.Desk{Sprouts: x, Ending: impl.Ending{Chains: chains, Loops: loops}, Hex: impl.Hex{Side: d.Hex.Side, Cells: cells}}
	return copied, func() bool { return isSame() && fmt.Sprint(allChains, allLoops, allCells) == before }
}

// No line changes the desk that it is given, or leads to one that shares memory with it.
func TestDesksShareNoMemory(t *testing.T) {
	check := func(d impl.Desk, line string) impl.Desk {
		given, isSame := roomyDesk(d)
		after, _ := impl.RunLine(given, line)
		wantMemoryApart(t, strconv.Quote(line), given, after)
		if !isSame() {
			t.Errorf("%q has changed its argument to %v", line, given)
		}
		return after
	}
	for _, rows := range scenes() {
		d := impl.NewDesk()
		for _, row := range rows {
			d = check(d, row[0])
		}
	}
	for _, y := range goodTrays() {
		for _, line := range slices.Concat(rightLines(), []string{"fly", "", "show ", "take 1", "take 3", "move 0 0 0 0 0 0"}) {
			check(y.desk(t), line)
		}
	}
	wantMemoryApart(t, "NewDesk", impl.NewDesk(), impl.NewDesk())
	first, _ := impl.DeskAfter("spots 3\nending 3,4;4,5\nhex 3")
	second, _ := impl.DeskAfter("spots 3\nending 3,4;4,5\nhex 3")
	start, _ := impl.DeskAfter("")
	wantMemoryApart(t, "DeskAfter", first, second, start, impl.NewDesk())
}

// Slices of the given desk may share memory; those of the one behind a line do not.
func TestDesksWithSharedMemory(t *testing.T) {
	list := []int64{0, 1, 1, 2, 2}
	other := []int64{4, 4, 4, 4}
	d := impl.Desk{
		Sprouts: position(3, region(list[:1:1], list[1:5])),
		Ending:  impl.Ending{Chains: other[:2], Loops: other[1:]},
		Hex:     impl.Hex{Side: 2, Cells: list[:4]},
	}
	for _, line := range []string{"show", "fly", "take 0", "chain 4", "loop 4", "ending 3;", "hex 2", "spots 2", "move 0 1 0 1 2 0", "mirror", "reset"} {
		before := fmt.Sprint(d)
		after, _ := impl.RunLine(d, line)
		wantMemoryApart(t, strconv.Quote(line), after)
		wantMemoryApart(t, strconv.Quote(line), after, impl.Desk{Sprouts: position(1, region(list, other))})
		if fmt.Sprint(d) != before {
			t.Errorf("%q has changed its argument to %v", line, d)
		}
	}
}

// Calls have the same results, whatever is done with the desks of others.
func TestConsoleKeepsNoState(t *testing.T) {
	text := "chain 3\nspots 1\nrun 3\nhex 3\ntake 4\nwins\nplay\nlives\nfly\nmirror\nsee\nlook\nshow"
	results := func() string {
		d, output := impl.RunLine(impl.NewDesk(), "take 1")
		last, ok := impl.DeskAfter(text)
		return fmt.Sprint(impl.NewDesk(), d, output, last, ok, impl.Console(text))
	}
	wantNoState(t, results, func() {
		for _, line := range slices.Concat(rightLines(), []string{"fly"}) {
			d, _ := impl.RunLine(impl.NewDesk(), line)
			spoilDesk(d)
		}
		spoilDesk(impl.NewDesk())
		d, _ := impl.DeskAfter(text)
		spoilDesk(d)
		impl.Console("hex 1\nending ;\nspots 6")
	})
}

// spoilDesk writes over all lists of a desk and over all the memory behind them.
func spoilDesk(d impl.Desk) {
	spoilSprouts(d.Sprouts)
	spoil(d.Ending.Chains)
	spoil(d.Ending.Loops)
	spoil(d.Hex.Cells)
}
