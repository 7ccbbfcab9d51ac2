package tests

import (
	"fmt"
	"math/rand"
	"slices"
	"strings"
	"testing"

	"loop.example/g00209/impl"
)

func TestLinesConstants(t *testing.T) {
	if impl.MaxScript != mostScript || impl.MaxLines != mostLines {
		t.Error("constants of chapter 18")
	}
}

// Promise 18: parts that begin, and such that do not.
func TestPartsByLines(t *testing.T) {
	m := checkDialogue(t, `
part a 1 => ok
part a 1 => no
part a 2 => no
part b 0 => no
part b 4 => no
part B 1 => no
part b-2 2 => ok
part b-2 2 => no
part 0123456789abcdefghij 3 => ok
part 0123456789abcdefghijk 3 => no
part - 1 => ok
part b 2 => ok
part c 1 => no
part b 3 => no
`)
	names, codes := []string{"a", "b-2", "0123456789abcdefghij", "-", "b"}, []int{1, 2, 3, 1, 2}
	if len(m.parts) != 5 {
		t.Fatal(m)
	}
	for i, p := range m.parts {
		want := impl.Part{Name: names[i], Heap: impl.Heap{Memory: impl.Memory{Max: 4, Data: strings.Repeat("\x00", 256)}}, Code: codes[i], Leave: true}
		if p != want {
			t.Errorf("%s, want %s", partText(p), partText(want))
		}
	}
	if !sameWorld(m.world, impl.World{Tables: make([]impl.Table, 5)}) {
		t.Error(worldText(m.world))
	}
}

// Promise 18: types.
func TestTypesByLines(t *testing.T) {
	checkDialogue(t, `
type u8 => size 1 align 1 flat 1
type bool => size 1 align 1 flat 1
type u64 => size 8 align 8 flat 1
type string => size 8 align 4 flat 2
type list<u8> => size 8 align 4 flat 2
type record<u8,u32,option<u16>> => size 12 align 4 flat 4
type variant<f32,u64,own<3>> => size 16 align 8 flat 2
type own<3> => size 4 align 4 flat 1
type flags<17> => size 4 align 4 flat 1
type enum<300> => size 2 align 2 flat 1
type record<record<string,string,string,string,string,string,string,string>,record<string,string,string,string,string,string,string,string>> => size 128 align 4 flat 32
type record<variant<record<string,string,string,string,string,string,string,string>>,record<string,string,string,string,string,string,string,string>> => size 132 align 4 flat 33
type record<record<string,string,string,string,string,string,string,string>,record<string,string,string,string,string,string,string,string>,record<string,string,string,string>> => size 160 align 4 flat 40
type record<record<string,string,string,string,string,string,string,string>,record<string,string,string,string,string,string,string,string>,record<string,string,string,string>,u8> => size 164 align 4 flat none
type u9 => no
type list<u8,u8> => no
type list<u8> u8 => no
type list<u8>  => no
type  u8 => no
type U8 => no
type enum<301> => no
type  => no
type => what
`)
}

// Promise 18: values laid, taken up and passed, and memories that grow.
func TestValuesByLines(t *testing.T) {
	m := checkDialogue(t, `
part a 1 => ok
part b 2 => ok
lay a u8 7 => at 0
lay a string "hi you" => at 4
lift a 4 string => value "hi you"
lift a 0 u8 => value 7
lift a 1 u8 => value 0
lift a 1 string => no 3
lift a 252 string => no 3
lift a 256 u8 => no 3
lift a 999999999 u8 => no 3
pass a b 4 string => at 0
lift b 0 string => value "hi you"
pass a b 5 string => no 2
pass b b 0 string => at 20
lift b 20 string => value "hi you"
lay b record<u8,list<u16>> (1,[2,3]) => at 40
lift b 40 record<u8,list<u16>> => value (1,[2,3])
lay b option<u8> none => at 56
lay b result<u8,string> err:"" => at 60
lift b 60 result<u8,string> => value err:""
lift b 60 enum<1> => no 4
lift b 61 list<char> => no 3
lay b u8 256 => no
lay b u8 => what
lay b u9 1 => no
lay b own<1> 5 => no 1
lay b own<1> 100001 => no
lift b 0 own<1> => no 1
pass a b 0 own<1> => no 1
lift b 0 u9 => no 1
pass a b 0 u9 => no 1
grow b 1 => was 1
grow b 0 => was 2
grow b 2 => was 2
grow b 1 => was -1
grow b 8 => was -1
grow b 9 => no
grow b 999999999 => no
lift b 1023 u8 => value 0
lift b 1024 u8 => no 3
lift b 60 result<u8,string> => value err:""
`)
	if a, b := m.parts[0], m.parts[1]; a.Heap.Next != 18 || a.Heap.Memory.Data[:18] != "\x07\x00\x00\x00\x0c\x00\x00\x00\x06\x00\x00\x00hi you" || len(a.Heap.Memory.Data) != 256 || len(b.Heap.Memory.Data) != 1024 || b.Heap.Memory.Data[:20] != "\x08\x00\x00\x00\x06\x00\x00\x00h\x00i\x00 \x00y\x00o\x00u\x00" {
		t.Error(m)
	}
	// Room that is taken to the last byte, and a value that is read but for which there is none.
	full := "part a 1 => ok\n"
	for i := range 32 {
		full += fmt.Sprintf("lay a u64 %d => at %d\n", i, 8*i)
	}
	m = checkDialogue(t, full+`lay a u8 1 => no 2
lay a list<u8> [] => no 2
lay a string "x" => no 2
lay a u8 x => no
part b 1 => ok
pass b a 0 u8 => no 3
pass a b 8 u64 => at 0
grow a 1 => was 1
lay a u8 1 => at 256
lift a 248 u64 => value 31
`)
	if m.parts[0].Heap.Next != 257 {
		t.Error(m)
	}
	// V may have blanks in it, and begin or end with one.
	checkDialogue(t, `
part a 3 => ok
lay a string " a  b " => at 0
lift a 0 string => value " a  b "
lay a string  "a" => no
lay a string "a"  => no
lay a list<u8> [1, 2] => no
lay a u8  => no
lay a  u8 5 => no
lay  u8 5 => no 1
lay a string "\c3\a4" => at 16
lift a 16 string => value "\c3\a4"
lay a string "ä" => no
`)
}

// Promise 18: a name that no part has.
func TestNoPartsByLines(t *testing.T) {
	checkDialogue(t, `
lay a u8 5 => no 1
lay a u8 x => no
lay a u9 5 => no
lift a 0 u8 => no 1
pass a a 0 u8 => no 1
grow a 0 => no
grow a 1 => no
part a 1 => ok
lay b u8 5 => no 1
lay A u8 5 => no 1
lay aa u8 5 => no 1
lay  list<u8> [] => no 1
lift b 0 u8 => no 1
lift  0 u8 => no 1
pass a b 0 u8 => no 1
pass b a 0 u8 => no 1
pass b b 0 u8 => no 1
grow b 0 => no
grow  0 => no
lay a u8 5 => at 0
`)
}

// Promise 18: things that are made, given, lent and dropped.
func TestActsByLines(t *testing.T) {
	m := checkDialogue(t, `
owner 0 => no
make 0 4 => told 0
make 0 4 => told 1
make 4 9 => told 0
make 5 4 => no 1
make 0 10 => no 1
owner 0 => owner 0
owner 2 => owner 4
owner 3 => no
give 0 0 1 4 => told 0
give 0 0 1 4 => no 2
give 0 1 0 4 => no 1
give 0 1 1 5 => no 3
give 0 1 5 4 => no 1
give 5 1 0 4 => no 1
owner 0 => owner 1
lend 1 0 2 4 => told 0
give 1 0 2 4 => no 4
give 2 0 1 4 => no 6
lend 2 0 3 4 => no 6
lend 1 0 1 4 => no 1
drop 1 0 4 => no 4
lend 4 0 2 9 => told 1
drop 2 0 4 => no 4
drop 2 1 9 => told 2
end => told 0
end => no 2
drop 1 0 5 => no 3
drop 1 1 4 => no 2
drop 1 0 4 => told 0
drop 5 0 4 => no 1
owner 0 => owner
owner 1 => owner 0
owner 999999999 => no
make 999999999 1 => no 1
make 0 1 => told 0
`)
	if want := worldTold("4x 4 9 1 ; o1:3 o4:1 | / - | 0 / - - | 1 0 / | / o9:2 | ; ; 0"); !sameWorld(m.world, want) || len(m.parts) > 0 {
		t.Errorf("%s, want %s", worldText(m.world), worldText(want))
	}
	// As many things as there may be.
	full := strings.Repeat("make 0 1\n", 20) + strings.Repeat("make 1 2\n", 20) + "make 2 3\nend\ndrop 1 19 2\nmake 1 2\nowner 39\nowner 40\n"
	if got := checkScript(t, full); !strings.HasSuffix(got, "told 18\ntold 19\nno 5\nno 2\ntold 39\nno 5\nowner\nno\n") {
		t.Errorf("%q", got)
	}
}

// Promise 18: modules that are run.
func TestRunsByLines(t *testing.T) {
	for _, line := range strings.Split(`run ALL 0 0 => value 127 7
run ALL 0 999999999 => value 127 7
run ALL 1 300 => value 127 600
run ALL 1 999999999 => value 127 1999999998
run ALL 2 4 => value 127 3
run ALL 2 0 => trap 2
run ALL 3 5 => value 0 0
run ALL 4 5 => value 126 18446744073709551615
run ALL 5 5 => value 125 1069547520
run ALL 6 5 => no 1
run ALL 7 0 => trap 1
run ALL 8 0 => no 3
run ALL 9 0 => trap 5
run ALL 10 0 => no 1
run ALL 999999999 0 => no 1
run KEEP 0 252 => value 127 0
run KEEP 0 253 => trap 4
run KEEP 1 1 => no 1
run KEEP 2 1 => no 1
run KEEP 3 21 => value 127 42
run START 0 3 => value 127 33
run START 1 3 => value 0 0
run TRAP 0 3 => trap 1
run TRAP 5 3 => trap 1
run EVER 0 3 => no 3
run NONE 0 3 => no 1`, "\n") {
		// Each a script by itself, for all of them together are too long for one.
		checkDialogue(t, strings.NewReplacer("ALL", inHex(reckoner()), "KEEP", inHex(keeper()), "START", inHex(ofStart("i:30 gset:0 end")), "TRAP", inHex(ofStart("unreachable end")), "EVER", inHex(ofStart("loop br:0 end end")), "NONE", inHex(impl.Module{Start: -1})).Replace(line))
	}
	checkDialogue(t, `
run 0071706d 0 0 => no 1
run  0 0 => no 1
run 00 0 0 => no 1
run 0171706d 0 0 => no 1
run 0071706d09 0 0 => no 2
run 0071706d010801007f000341070b 0 0 => value 127 7
run 0071706d010801007f000341070b 1 0 => no 1
run 0071706d010801007e000341070b 0 0 => no 3
run 0071706d01070100400002000b 0 0 => trap 1
run 0071706d010601004000010b 0 9 => value 0 0
`)
}

// Promise 18: each of the two runs has as much fuel as is told, and nothing of one run is there in the next.
func TestFuelOfRunsByLines(t *testing.T) {
	counts := impl.Module{Funcs: []impl.Func{funcOf(">i", "", "gget:0 i:1 i32+1 gset:0 gget:0 end")}, Globals: []impl.Global{{Type: impl.TypeI32, Bits: 40}}, Start: -1}
	for n, want := range map[int]string{999: "value 0 0", 1000: "value 0 0", 1001: "no 3"} {
		call := impl.Module{Funcs: []impl.Func{funcOf(">", "i", steps(n))}, Start: -1}
		start := call
		start.Start = 0
		start.Funcs = append(slices.Clone(call.Funcs), funcOf(">", "i", steps(1000)))
		for _, m := range []impl.Module{call, start} {
			for k := range m.Funcs {
				checkDialogue(t, fmt.Sprintf("run %s %d 0 => %s", inHex(m), k, want))
			}
		}
	}
	line := "run " + inHex(counts) + " 0 0 => value 127 41\n"
	checkDialogue(t, strings.Repeat(line, 20))
}

// Promise 18: what no command is.
func TestNoCommands(t *testing.T) {
	for _, line := range []string{
		"", " ", "what", "ok", "no", "Part a 1", "PART a 1", "parts a 1", "par a 1", "part", "part ", "part a", "part a ", "part a b", "part a 1 1", "part NAME CODE", "types u8", "type", "lay", "lay a", "lay a u8", "lift a 0", "lift a u8 0", "pass a b 0", "pass a 0 u8", "pass a b u8 0", "grow a", "grow a b", "grow 1 a",
		"make", "make 0", "make 0 1 2", "make a 1", "give 0 0 1", "give 0 0 1 4 1", "lend 0 0 1", "lend 0 0 1 4 1", "drop 0 0", "drop 0 0 1 1", "end 0", "end ", " end", "END", "ends", "owner", "owner 0 0", "owner a", "run", "run 00", "run 00 0", "run 00 0 0 0", "run 0 0", "end\r", "end\x00", "\xffend", "end\tend", "make\t0\t1", "make,0,1",
	} {
		if got := checkScript(t, "part a 1\npart b 1\n"+line+"\npart c 1\n"); got != "ok\nok\nwhat\nok\n" {
			t.Errorf("%q: %q", line, got)
		}
	}
}

// outcome: what a line begins with, what its answer begins with, and whether a code or a number stands behind that.
func outcome(line string, answer string) string {
	command, _, _ := strings.Cut(line, " ")
	word, rest, more := strings.Cut(answer, " ")
	switch {
	case word == "what":
		return word
	case word == "no" && more:
		return command + " no " + rest
	case word == "was" && rest == "-1":
		return command + " was -1"
	case word == "owner" && more, word == "size" && strings.HasSuffix(rest, "none"):
		return command + " " + word + " some"
	}
	return command + " " + word
}

// Promise 18: lines of all commands in drawn orders: the answers of each beginning are the beginning of the answers, what is
// there behind it is what there is then, and what is told does not hang on what follows.
func TestBeginningsOfScripts(t *testing.T) {
	r := rand.New(rand.NewSource(231))
	many := map[string]int{}
	for i := range 150 {
		lines := anyScript(r, []int{i % (mostLines + 1), mostLines}[i%2])
		answers := strings.SplitAfter(checkScript(t, scriptOf(lines)), "\n")
		m := newLines()
		for k := range len(lines) + 1 {
			s := scriptOf(lines[:k])
			if got := impl.RunParts(s); got != strings.Join(answers[:k], "") {
				t.Fatalf("%.3000q: %.2000q, as a beginning %.2000q", s, got, strings.Join(answers[:k], ""))
			}
			if got, ok := linesOf(s); !ok || !sameLines(got, m.copied()) {
				t.Fatalf("%.3000q: %s, want %s", s, got, m)
			}
			if k == len(lines) {
				break
			}
			many[outcome(lines[k], m.do(lines[k]))]++
		}
		if len(lines) > 0 {
			k := r.Intn(len(lines))
			other := append(slices.Clone(lines[:k]), anyScript(r, mostLines-k)...)
			for len(scriptOf(other)) > mostScript {
				other = other[:len(other)-1]
			}
			if got := checkScript(t, scriptOf(other)); k <= len(other) && !strings.HasPrefix(got, strings.Join(answers[:k], "")) {
				t.Fatalf("%.3000q: %.2000q, with other lines behind %.2000q", scriptOf(lines), strings.Join(answers, ""), got)
			}
		}
	}
	for _, want := range []string{
		"part ok", "part no", "type size", "type no", "lay at", "lay no", "lay no 1", "lay no 2", "lift value", "lift no 1", "lift no 3", "lift no 4", "pass at", "pass no 1", "pass no 2", "grow was", "grow was -1", "grow no",
		"make told", "give told", "give no 1", "give no 2", "give no 3", "give no 4", "give no 6", "lend told", "lend no 2", "lend no 3", "lend no 6", "drop told", "drop no 2", "drop no 3", "drop no 4", "end told", "end no 2", "owner owner", "owner owner some", "owner no",
		"run value", "run trap", "run no 1", "run no 2", "run no 3", "what",
	} {
		if many[want] == 0 {
			t.Errorf("none of %q: %v", want, many)
		}
	}
}

// Promise 18: any scripts.
func TestAnyScripts(t *testing.T) {
	r := rand.New(rand.NewSource(232))
	for range 600 {
		lines := anyScript(r, r.Intn(mostLines+1))
		for i := range lines {
			if r.Intn(16) == 0 {
				lines[i] = strings.ReplaceAll(spoiltLine(r, lines[i]), "\n", "")
			}
		}
		checkScript(t, scriptOf(lines))
	}
}
