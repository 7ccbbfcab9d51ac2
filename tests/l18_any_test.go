package tests

import (
	"fmt"
	"math/rand"
	"slices"
	"strings"
	"testing"

	"loop.example/g00209/impl"
)

// anyScriptText: mostly a script; otherwise something that was one.
func anyScriptText(r *rand.Rand) string {
	s := scriptOf(anyScript(r, r.Intn(mostLines+1)))
	for range r.Intn(3) {
		at := r.Intn(len(s) + 1)
		switch r.Intn(5) {
		case 0:
			s = s[:at]
		case 1:
			s = s[:at] + anyText(r) + s[at:]
		case 2:
			s = s[:at] + "\n" + s[at:]
		case 3:
			s = s[:at] + s[min(len(s), at+1+r.Intn(20)):]
		default:
			s = strings.Replace(s, "\n", []string{"", " ", "\r\n", "\x00", "\n\n"}[r.Intn(5)], 1+r.Intn(3))
		}
	}
	return s
}

// oddScripts: some that are hardly scripts, and some that are none.
func oddScripts() []string {
	l := []string{"", "\n", "\n\n", " ", " \n", "\x00", "\x00\n", "\xff\n", "\xc3\n", "\u20ac\n", strings.Repeat("\n", 60), strings.Repeat("\n", 61), strings.Repeat(" \n", 60), strings.Repeat("\x00\n", 60), text(2999) + "\n", strings.Repeat(" ", 2999) + "\n", strings.Repeat("\xff", 2999) + "\n", strings.Repeat("x", 1<<20), strings.Repeat("\n", 1<<20), strings.Repeat("end\n", 1<<18)}
	long := []string{strings.Repeat("0", 2000), strings.Repeat("9", 2000), strings.Repeat("list<", 500), strings.Repeat("\x00", 2000), strings.Repeat("\x80", 2000), strings.Repeat("[", 2000), strings.Repeat("\"", 2000), strings.Repeat(" ", 2000), strings.Repeat("some:", 400), strings.Repeat("ff", 1000), "0071706d" + strings.Repeat("80", 900), "0071706d01ffffffff0f", "-9223372036854775808", "9223372036854775808", "NAME", "HEX", "%s", "\\"}
	for _, line := range oneOfEach {
		words := strings.Split(line, " ")
		for i := range words {
			for _, word := range long {
				l = append(l, ahead+strings.Join(slices.Concat(words[:i], []string{word}, words[i+1:]), " ")+"\n")
			}
		}
		for b := range 256 {
			l = append(l, line+string([]byte{byte(b)})+"\n", string([]byte{byte(b)})+line+"\n")
		}
	}
	return l
}

// Promise 19: both functions answer at any text.
func TestLinesAnswerAtAnything(t *testing.T) {
	for _, s := range oddScripts() {
		checkScript(t, s)
	}
	for a := range 256 {
		for _, s := range []string{string([]byte{byte(a)}), string([]byte{byte(a), '\n'}), string([]byte{'\n', byte(a)}), string([]byte{'e', 'n', 'd', byte(a), '\n'})} {
			checkScript(t, s)
		}
	}
	r := rand.New(rand.NewSource(241))
	likely := "endmake 0123\n\x00\xff\"part"
	scripts := 0
	for range 1500 {
		s := anyScriptText(r)
		checkScript(t, s)
		if _, is := scriptLines(s); is {
			scripts++
		}
		b := make([]byte, r.Intn(200))
		for i := range b {
			b[i] = likely[r.Intn(len(likely))]
		}
		checkScript(t, string(b)+"\n")
	}
	if scripts < 500 || scripts > 1400 {
		t.Error("too few or too many scripts:", scripts)
	}
}

// textsOf: all that a stage has in memory as text.
func textsOf(m myLines) []string {
	var l []string
	for _, p := range m.parts {
		l = append(l, p.Name, p.Heap.Memory.Data)
	}
	return l
}

// Promise 19: what is answered lies neither in the script nor in another answer, nor two texts of one answer in each other.
func TestLinesAreNew(t *testing.T) {
	r := rand.New(rand.NewSource(242))
	texts := 0
	for range 400 {
		// Each in memory of its own, as scriptOf makes it.
		s := scriptOf(anyScript(r, r.Intn(mostLines+1)))
		one, _ := linesOf(s)
		two, _ := linesOf(s)
		all := slices.Concat([]string{s, impl.RunParts(s), impl.RunParts(s)}, textsOf(one), textsOf(two))
		texts += len(all)
		for i, a := range all {
			for k, b := range all {
				if i != k && (sharesBytes(a, b) || sharesBytes(b, a)) {
					t.Fatalf("%.1000q: text %d, %.100q, lies in text %d, %.100q", s, i, a, k, b)
				}
			}
		}
	}
	if texts < 3000 {
		t.Error("too few texts were answered:", texts)
	}
}

// Promise 19: what is written into an answer's lists, also behind their lengths, is seen in no other answer.
func TestListsOfLinesAreNew(t *testing.T) {
	r := rand.New(rand.NewSource(243))
	lists := 0
	for range 400 {
		s := scriptOf(anyScript(r, r.Intn(mostLines+1)))
		one, _ := linesOf(s)
		two, _ := linesOf(s)
		kept := two.copied()
		lists += len(one.parts) + len(one.world.Things)
		checkApart(t, one.world)
		spoilRow(one.parts, impl.Part{Name: "x", Code: -7})
		spoil(one.world)
		again, _ := linesOf(s)
		if !sameLines(two, kept) || !sameLines(again, kept) {
			t.Fatalf("%.1000q: an answer lies in another one", s)
		}
		for _, p := range two.parts[len(two.parts):cap(two.parts)] {
			if p != (impl.Part{}) {
				t.Fatalf("%.1000q: %s lies behind its parts", s, partText(p))
			}
		}
	}
	if lists < 1000 {
		t.Error("too few lists were answered:", lists)
	}
}

// Promise 19: what lies behind a script in its memory is not read.
func TestBehindScripts(t *testing.T) {
	r := rand.New(rand.NewSource(244))
	for range 300 {
		s := anyScriptText(r)
		want, end := impl.RunParts(s), short(fmt.Sprint(linesOf(s)))
		for _, behind := range []string{"\n", "end\n", "0", " 0\n", "\x00"} {
			whole := s + behind
			if got := impl.RunParts(whole[:len(s)]); got != want || short(fmt.Sprint(linesOf(whole[:len(s)]))) != end || whole != s+behind {
				t.Fatalf("%.1000q: %.1000q, with something behind it %.1000q", s, want, got)
			}
		}
	}
}

// Promise 19: the same script answers the same again, whatever was asked between, also at the same time.
func TestLinesKeepNothing(t *testing.T) {
	r := rand.New(rand.NewSource(245))
	var all, first []string
	answers := func(s string) string {
		m, ok := linesOf(s)
		return fmt.Sprint(impl.RunParts(s), m, ok)
	}
	for range 200 {
		s := anyScriptText(r)
		all, first = append(all, s), append(first, answers(s))
		checkScript(t, s)
	}
	each := make(chan []string)
	for range 2 {
		go func() {
			var l []string
			for _, s := range all {
				l = append(l, answers(s))
			}
			each <- l
		}()
	}
	for range 2 {
		if again := <-each; !slices.Equal(again, first) {
			t.Error("answers differ")
		}
	}
	for i, s := range slices.Backward(all) {
		if again := answers(s); again != first[i] {
			t.Fatalf("%.500q, then %.500q", first[i], again)
		}
	}
	// Commands are met in another order each time, which is not to be seen.
	for _, line := range oneOfEach {
		want := impl.RunParts(ahead + line + "\n")
		for range 50 {
			if got := impl.RunParts(ahead + line + "\n"); got != want {
				t.Fatalf("%q: %q, then %q", line, want, got)
			}
		}
	}
}
