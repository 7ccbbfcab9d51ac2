package tests

import (
	"fmt"
	"slices"
	"strings"
	"testing"

	"loop.example/g00209/impl"
)

// checkIsScript: whether a text is one.
func checkIsScript(t *testing.T, s string, is bool) {
	t.Helper()
	got := checkScript(t, s)
	m, ok := linesOf(s)
	if ok != is || strings.Count(got, "\n") != strings.Count(s, "\n") && is || !is && (got != "" || !sameLines(m, myLines{})) {
		t.Errorf("%.200q (%d bytes, %d lines): %.200q, %t", s, len(s), strings.Count(s, "\n"), got, ok)
	}
}

// Promise 18: scripts of 0, 1, MaxScript bytes and next to it, in one line and in many.
func TestScriptsOfSizes(t *testing.T) {
	checkIsScript(t, "", true)
	checkIsScript(t, "\n", true)
	checkIsScript(t, "x", false)
	if got := checkScript(t, "\n"); got != "what\n" {
		t.Errorf("%q", got)
	}
	for _, ahead := range []string{"", "x", "type ", "part a 1\nlay a string ", "end\nend\n\n", strings.Repeat("end\n", 59), "run "} {
		for _, behind := range []string{"\n", " 0 0\n", "end\n"} {
			for size := mostScript - 2; size <= mostScript+3; size++ {
				s := ahead + strings.Repeat("0", size-len(ahead)-len(behind)) + behind
				checkIsScript(t, s, size <= mostScript)
				checkIsScript(t, s[:len(s)-1], false)
			}
		}
	}
	for _, size := range []int{1 << 16, 1 << 24} {
		checkIsScript(t, strings.Repeat("x", size)+"\n", false)
		checkIsScript(t, strings.Repeat("\n", size), false)
	}
}

// Promise 18: scripts of all numbers of lines, up to MaxLines and beyond.
func TestScriptsOfLines(t *testing.T) {
	for _, line := range []string{"", "end", "make 0 1", "type u8", "part a 1", "x"} {
		for n := range mostLines + 5 {
			s := strings.Repeat(line+"\n", n)
			checkIsScript(t, s, n <= mostLines)
			checkIsScript(t, s+"e", false)
			checkIsScript(t, s+" ", false)
		}
	}
	if got, want := checkScript(t, strings.Repeat("end\n", 60)), strings.Repeat("no 2\n", 60); got != want {
		t.Errorf("%q", got)
	}
	if got := checkScript(t, strings.Repeat("end\n", 61)); got != "" {
		t.Errorf("%q", got)
	}
}

// Promise 18: each line has a byte 10 behind it, the last one too, and no other byte ends one.
func TestLinesEnd(t *testing.T) {
	for s, want := range map[string]string{
		"end\n": "no 2\n", "end\nend\n": "no 2\nno 2\n", "end": "", "end\nend": "", "end\n ": "", "\nend": "", "\n\n\n": "what\nwhat\nwhat\n", "end\n\nend\n": "no 2\nwhat\nno 2\n", "end\r\n": "what\n", "end\rend\n": "what\n", "end\x00\n": "what\n", "end\u0085end\n": "what\n", "end\u2028end\n": "what\n", "end\n\r": "", "end\n\x00": "", "end;end\n": "what\n",
	} {
		if got := checkScript(t, s); got != want {
			t.Errorf("%q: %q, want %q", s, got, want)
		}
	}
}

// ahead: what is there ahead of each of oneOfEach.
const ahead = "part a 1\npart b 2\nlay a u16 513\nmake 0 4\nmake 1 5\nlend 0 0 2 4\n"

// oneOfEach: a line of each command that does something then.
var oneOfEach = []string{
	"part c 3", "type u8", "lay a string \"x y\"", "lift a 0 u16", "pass a b 0 u16", "grow a 2", "make 0 4", "give 1 0 0 5", "lend 1 0 0 5", "drop 1 0 5", "end", "owner 1", "run 0071706d010801007f000341070b 0 0",
}

// answerBehind: what a line answers behind those of ahead; what is told ahead and of a line behind it stays as it is.
func answerBehind(t *testing.T, line string) string {
	t.Helper()
	first := checkScript(t, ahead)
	got := checkScript(t, ahead+line+"\n")
	answer, ok := strings.CutPrefix(got, first)
	if !ok || !strings.HasSuffix(answer, "\n") || strings.Count(answer, "\n") != 1 {
		t.Fatalf("%q: %q", line, got)
	}
	return strings.TrimSuffix(answer, "\n")
}

// Promise 18: what each command answers, one by one.
func TestOneOfEachCommand(t *testing.T) {
	for i, want := range []string{"ok", "size 1 align 1 flat 1", "at 4", "value 513", "at 0", "was 1", "told 1", "told 1", "told 1", "told 1", "told 0", "owner 1", "value 127 7"} {
		if got := answerBehind(t, oneOfEach[i]); got != want {
			t.Errorf("%q: %q, want %q", oneOfEach[i], got, want)
		}
	}
}

// Promise 18: words have one blank between. Two of them have a word of no bytes between, which no number is, and no name,
// type or module of its own.
func TestBlanksInLines(t *testing.T) {
	empty := map[string]string{
		"part  c 3": "what", "part c  3": "what", "part  3": "no", "type  u8": "no", "type ": "no", "lay  a string \"x y\"": "no", "lay a  string \"x y\"": "no", "lay a string  \"x y\"": "no", "lay  u8 1": "no 1", "lay a  1": "no", "lay a string ": "no", "lay  string ": "no", "lay a ": "what", "lay  ": "what", "lay   ": "no",
		"lift  a 0 u16": "what", "lift a  0 u16": "what", "lift a 0  u16": "no 1", "lift  0 u16": "no 1", "lift a 0 ": "no 1", "pass  a b 0 u16": "what", "pass a  b 0 u16": "what", "pass a b  0 u16": "what", "pass a b 0  u16": "no 1", "pass a  0 u16": "no 1", "pass  b 0 u16": "no 1", "pass   0 u16": "no 1", "pass a b 0 ": "no 1", "grow  a 2": "what", "grow a  2": "what", "grow  2": "no",
		"run  0071706d010801007f000341070b 0 0": "what", "run  0 0": "no 1", "run 0071706d010801007f000341070b  0 0": "what", "run 0071706d010801007f000341070b 0  0": "what",
	}
	for line, want := range empty {
		if got := answerBehind(t, line); got != want {
			t.Errorf("%q: %q, want %q", line, got, want)
		}
	}
	for _, line := range oneOfEach {
		command, _, _ := strings.Cut(line, " ")
		for _, blank := range []string{" ", "  ", "\t", "\u00a0", "\v", "\f", "\r"} {
			if got := answerBehind(t, blank+line); got != "what" {
				t.Errorf("%q behind a blank: %q", line, got)
			}
			got := answerBehind(t, line+blank)
			switch command {
			case "type", "lay":
				if got != "no" {
					t.Errorf("%q: %q", line+blank, got)
				}
			case "lift", "pass":
				if got != "no 1" {
					t.Errorf("%q: %q", line+blank, got)
				}
			default:
				if got != "what" {
					t.Errorf("%q: %q", line+blank, got)
				}
			}
			for at, b := range line {
				if b != ' ' {
					continue
				}
				// Within V, which is all behind the blank, they are part of the text.
				x := line[:at] + blank + line[at+1:]
				if got, within := answerBehind(t, x), strings.HasPrefix(line, "lay") && at > 13; blank != " " && !within && got == answerBehind(t, line) {
					t.Errorf("%q: %q", x, got)
				}
			}
		}
	}
	for line, want := range map[string]string{"lay a string \"x  y\"": "at 4", "lay a string \" \"": "at 4", "lay a string \"x y\" ": "no", "lay a string  \"x y\"": "no", "lay a list<u8> [1, 2]": "no", "lay a list<u8> [1,2]": "at 4", "lay a list <u8> [1,2]": "no", "type list <u8>": "no", "type record<u8, u8>": "no", "lift a 0 record<u8, u8>": "no 1", "lift a 0 record<u8,u8>": "value (1,2)", "pass a b 0 record<u8, u8>": "no 1", "pass a b 0 record<u8,u8>": "at 0"} {
		if got := answerBehind(t, line); got != want {
			t.Errorf("%q: %q, want %q", line, got, want)
		}
	}
}

// Promise 18: a word too few and a word too many. What is more behind T or V is part of it.
func TestNumberOfWords(t *testing.T) {
	for _, line := range oneOfEach {
		line = strings.ReplaceAll(line, "x y", "x")
		words := strings.Split(line, " ")
		for i := range words {
			fewer := strings.Join(slices.Delete(slices.Clone(words), i, i+1), " ")
			if got := answerBehind(t, fewer); got != "what" {
				t.Errorf("%q: %q", fewer, got)
			}
			if slices.Contains([]string{"type", "lay", "lift", "pass"}, words[0]) {
				continue
			}
			for _, word := range []string{"0", "a", "u8", words[i]} {
				more := strings.Join(slices.Insert(slices.Clone(words), i+1, word), " ")
				if got := answerBehind(t, more); got != "what" {
					t.Errorf("%q: %q", more, got)
				}
			}
		}
	}
	for line, want := range map[string]string{
		"type u8 u8": "no", "type u8 0": "no", "lay a b u8 5": "no", "lay a a u8 5": "no", "lay a u8 u8 5": "no", "lay a u8 5 5": "no", "lay lay a u8 5": "no", "lift a a 0 u16": "what", "lift a 0 0 u16": "no 1", "lift a 0 a u16": "no 1", "lift a 0 u16 u16": "no 1", "lift lift a 0 u16": "what", "pass a b a 0 u16": "what", "pass a a b 0 u16": "what", "pass a b 0 0 u16": "no 1", "pass a b 0 u16 0": "no 1", "pass pass a b 0 u16": "what",
	} {
		if got := answerBehind(t, line); got != want {
			t.Errorf("%q: %q, want %q", line, got, want)
		}
	}
}

// numberPlaces: lines with # where a number stands.
var numberPlaces = []string{
	"part c #", "lift a # u16", "pass a b # u16", "grow a #", "make # 4", "make 0 #", "give # 0 0 5", "give 1 # 0 5", "give 1 0 # 5", "give 1 0 0 #", "lend # 0 0 5", "lend 1 # 0 5", "lend 1 0 # 5", "lend 1 0 0 #", "drop # 0 5", "drop 1 # 5", "drop 1 0 #", "owner #", "run 0071706d010801007f000341070b # 0", "run 0071706d010801007f000341070b 0 #",
}

// Promise 18: numbers have 1..9 digits, without needless noughts, and nothing else.
func TestNumbersInLines(t *testing.T) {
	for _, place := range numberPlaces {
		for n := range 10 {
			if got := answerBehind(t, strings.ReplaceAll(place, "#", fmt.Sprint(n))); got == "what" {
				t.Errorf("%q of %d", place, n)
			}
		}
		for _, n := range []string{"10", "99", "100", "12345678", "99999999", "100000000", "123456789", "999999999"} {
			if got := answerBehind(t, strings.ReplaceAll(place, "#", n)); got == "what" {
				t.Errorf("%q of %s", place, n)
			}
		}
		for _, n := range []string{
			"", "-1", "-0", "+0", "+1", "00", "01", "000000001", "0000000001", "000000000", "1000000000", "1234567890", "9999999999", "4294967296", "9223372036854775807", "18446744073709551616", "99999999999999999999999", "a", "A", "f", "1a", "a1", "0x1", "0b1", "0o7", "1_0", "1.0", "1.", ".1", "1e0", "1,0", "1\t", "\t1", "1\r", "\u0661", "\uff11", "\x00", "1\x00", "\xff", "1\xff", "--1", "1-", "#", "NaN", "inf", "'1'",
		} {
			if got := answerBehind(t, strings.ReplaceAll(place, "#", n)); got != "what" {
				t.Errorf("%q of %q: %q", place, n, got)
			}
		}
	}
}

// Promise 18: names of 0 to 21 bytes, and of all bytes.
func TestNamesInLines(t *testing.T) {
	for n := range 30 {
		name := strings.Repeat("n", n)
		want := "no\nno 1\nno 1\nno\n"
		if n > 0 && n <= 20 {
			want = "ok\nat 0\nvalue 7\nwas 1\n"
		}
		if got := checkScript(t, fmt.Sprintf("part %s 1\nlay %s u8 7\nlift %s 0 u8\ngrow %s 1\n", name, name, name, name)); got != want {
			t.Errorf("%d bytes: %q", n, got)
		}
	}
	for b := range 256 {
		if b == '\n' || b == ' ' {
			continue
		}
		name := string([]byte{byte(b)})
		want := "no\nno 1\n"
		if strings.Contains("abcdefghijklmnopqrstuvwxyz0123456789-", name) {
			want = "ok\nat 0\n"
		}
		if got := checkScript(t, "part "+name+" 1\nlay "+name+" u8 7\n"); got != want {
			t.Errorf("%q: %q", name, got)
		}
	}
}

// Promise 18: as many parts as there may be, one more, and each of them under its own name.
func TestAsManyParts(t *testing.T) {
	var s, want string
	for i := range 7 {
		s += fmt.Sprintf("part p%d %d\nlay p%d u8 %d\n", i, i%3+1, i, 10+i)
		want += []string{"ok\nat 0\n", "no\nno 1\n"}[i/5]
	}
	for i := range 7 {
		s += fmt.Sprintf("lift p%d 0 u8\n", i)
		want += []string{fmt.Sprintf("value %d\n", 10+i), "no 1\n"}[i/5]
	}
	if got := checkScript(t, s); got != want {
		t.Errorf("%q, want %q", got, want)
	}
	m, _ := linesOf(s)
	for i, p := range m.parts {
		if p.Name != fmt.Sprintf("p%d", i) || p.Code != i%3+1 || p.Heap.Next != 1 || p.Heap.Memory.Data[:2] != string([]byte{byte(10 + i), 0}) || p.Inside || !p.Leave {
			t.Error(partText(p))
		}
	}
	if len(m.parts) != 5 {
		t.Error(m)
	}
}

// Promise 18: memories that grow from one page to four.
func TestMemoriesGrowByLines(t *testing.T) {
	for _, c := range []struct{ by, told string }{
		{"0 0 0", "1 1 1"}, {"3 0 1", "1 4 -1"}, {"4 3", "-1 1"}, {"1 1 1 1", "1 2 3 -1"}, {"8 2 2 1 0", "-1 1 -1 3 4"}, {"5 6 7 8", "-1 -1 -1 -1"},
	} {
		s, want := "part a 1\nlay a u32 77\n", "ok\nat 0\n"
		pages := 1
		for i, by := range strings.Fields(c.by) {
			told := strings.Fields(c.told)[i]
			s, want = s+"grow a "+by+"\n", want+"was "+told+"\n"
			if told != "-1" {
				pages = numeral(told) + numeral(by)
			}
		}
		s, want = s+"lift a 0 u32\ngrow a 9\n", want+"value 77\nno\n"
		if got := checkScript(t, s); got != want {
			t.Errorf("%q: %q, want %q", s, got, want)
		}
		if m, _ := linesOf(s); len(m.parts[0].Heap.Memory.Data) != 256*pages || m.parts[0].Heap.Memory.Max != 4 || m.parts[0].Heap.Next != 4 {
			t.Error(m)
		}
	}
}

// Promise 18: bytes in two digits each, of 0-9a-f alone.
func TestHexInLines(t *testing.T) {
	good := "0071706d010801007f000341070b"
	for n := range len(good) + 1 {
		want := "no 1"
		switch {
		case n%2 == 1:
			want = "what"
		case n == len(good):
			want = "value 127 7"
		case n > 8:
			want = "no 2"
		}
		if got := answerBehind(t, "run "+good[:n]+" 0 0"); got != want {
			t.Errorf("%q: %q, want %q", good[:n], got, want)
		}
	}
	for at := range good {
		for b := range 256 {
			// A blank makes a word more, a byte 10 a line.
			if b == ' ' || b == '\n' || at > 4 && b%16 != 3 {
				continue
			}
			s := good[:at] + string([]byte{byte(b)}) + good[at+1:]
			got := answerBehind(t, "run "+s+" 0 0")
			if strings.Contains("0123456789abcdef", string([]byte{byte(b)})) == (got == "what") {
				t.Errorf("%q: %q", s, got)
			}
		}
	}
	for _, s := range []string{"0071706D", "0071706d01080100F000341070b", "0X71706d", "0x71706d", "00 71706d", "+071706d", "-071706d", "0_71706d", "00,71706d", "\u0660071706d"} {
		if got := answerBehind(t, "run "+s+" 0 0"); got != "what" {
			t.Errorf("%q: %q", s, got)
		}
	}
	// As long as a line may be.
	for _, digits := range []int{2980, 2982} {
		if got := checkScript(t, "run 0071706d"+strings.Repeat("0", digits)+" 0 0\n"); got != "no 2\n" {
			t.Errorf("%d digits: %q", digits, got)
		}
	}
}

// Promise 18: what is refused, and what no command is, changes nothing.
func TestRefusedLinesChangeNothing(t *testing.T) {
	want, _ := linesOf(ahead)
	refused := 0
	for _, place := range append(slices.Clone(numberPlaces), "lay a u8 #", "lay a own<1> #", "lay b string \"#\"", "lay a u16 #", "#", "type #", "part a #", "part # 1") {
		for _, n := range []string{"", "-1", "5", "9", "77777", "999999999", "1000000000", text(300), "x\xff"} {
			line := strings.ReplaceAll(place, "#", n)
			command, _, _ := strings.Cut(line, " ")
			answer := answerBehind(t, line)
			changes := !strings.HasPrefix(answer, "no") && answer != "what" && !slices.Contains([]string{"type", "lift", "owner", "run"}, command)
			if got, _ := linesOf(ahead + line + "\n"); !changes && !sameLines(got, want) {
				t.Errorf("%q, %q: %s, was %s", line, answer, got, want)
			}
			if !changes {
				refused++
			}
		}
	}
	if refused < 100 {
		t.Error("too few were refused:", refused)
	}
}

// Promise 18: a value that is passed to and fro, from code to code, stays what it is.
func TestPassedToAndFroByLines(t *testing.T) {
	checkDialogue(t, `
part a 1 => ok
part b 2 => ok
part c 3 => ok
grow b 3 => was 1
lay a record<string,list<string>> ("\c3\a4",["\e2\82\ac",""]) => at 0
pass a b 0 record<string,list<string>> => at 0
pass b c 0 record<string,list<string>> => at 0
pass c b 0 record<string,list<string>> => at 40
lift b 40 record<string,list<string>> => value ("\c3\a4",["\e2\82\ac",""])
lift c 0 record<string,list<string>> => value ("\c3\a4",["\e2\82\ac",""])
pass c c 0 record<string,list<string>> => at 40
pass c a 40 record<string,list<string>> => at 40
lift a 40 record<string,list<string>> => value ("\c3\a4",["\e2\82\ac",""])
`)
}

// Promise 18: codes 0 to 4, of parts that lay the same text.
func TestCodesInLines(t *testing.T) {
	for code, want := range []string{"no\nno 1\nno 1\n", "ok\nat 0\nvalue \"\\c3\\a4\"\n", "ok\nat 0\nvalue \"\\c3\\a4\"\n", "ok\nat 0\nvalue \"\\c3\\a4\"\n", "no\nno 1\nno 1\n"} {
		s := fmt.Sprintf("part a %d\nlay a string \"\\c3\\a4\"\nlift a 0 string\n", code)
		if got := checkScript(t, s); got != want {
			t.Errorf("code %d: %q", code, got)
		}
		m, _ := linesOf(s)
		laid := []string{"", "\x08\x00\x00\x00\x02\x00\x00\x00\xc3\xa4", "\x08\x00\x00\x00\x01\x00\x00\x00\xe4\x00", "\x08\x00\x00\x00\x01\x00\x00\x00\xe4", ""}[code]
		if len(m.parts) != min(len(laid), 1) || laid != "" && m.parts[0].Heap.Memory.Data != laid+strings.Repeat("\x00", 256-len(laid)) {
			t.Errorf("code %d: %s", code, m)
		}
	}
}

// Promise 18: a script that is none leaves nothing, whatever its lines do.
func TestNoScripts(t *testing.T) {
	for _, s := range []string{ahead + "end", strings.Repeat(ahead, 10) + "\n", ahead + text(mostScript) + "\n", ahead + "x"} {
		parts, world, ok := impl.PartsOf(s)
		if got := impl.RunParts(s); got != "" || len(parts) > 0 || !sameWorld(world, impl.World{}) || ok {
			t.Errorf("%.100q: %q, %v, %s, %t", s, got, parts, worldText(world), ok)
		}
	}
	parts, world, ok := impl.PartsOf("")
	if first, _ := impl.NewWorld(mostParts); len(parts) > 0 || !sameWorld(world, first) || !ok {
		t.Errorf("of the empty text: %v, %s, %t", parts, worldText(world), ok)
	}
}
