package tests

import (
	"math/rand"
	"slices"
	"strings"
	"testing"

	"loop.example/g00209/impl"
)

// codeOfLetters: b, l and i begin a block, a loop and an if, e is an else, a point an end, all others do nothing.
func codeOfLetters(s string) []impl.Ins {
	var l []impl.Ins
	for _, c := range s {
		x := impl.Ins{Op: impl.InNop}
		switch c {
		case 'b':
			x = impl.Ins{Op: impl.InBlock, A: impl.TypeNone}
		case 'l':
			x = impl.Ins{Op: impl.InLoop, A: impl.TypeI32}
		case 'i':
			x = impl.Ins{Op: impl.InIf, A: impl.TypeF32}
		case 'e':
			x = impl.Ins{Op: impl.InElse}
		case '.':
			x = impl.Ins{Op: impl.InEnd}
		}
		l = append(l, x)
	}
	return l
}

// bodyReader reads a body by what it is made of: a block is what begins it, rows and an end.
type bodyReader struct {
	s    string
	at   int
	ends []int
	deep int
}

// row reads up to an end or an else, at that depth, and tells which places are its own.
func (b *bodyReader) row(depth int) ([]int, bool) {
	var own []int
	b.deep = max(b.deep, depth)
	for b.at < len(b.s) {
		switch c := b.s[b.at]; c {
		case '.', 'e':
			return own, true
		case 'b', 'l', 'i':
			if !b.block(c == 'i', depth+1) {
				return nil, false
			}
		default:
			own = append(own, b.at)
			b.at++
		}
	}
	return nil, false
}

// block reads a whole one, from what begins it up to its end.
func (b *bodyReader) block(isIf bool, depth int) bool {
	own := []int{b.at}
	b.at++
	return b.rest(own, isIf, depth)
}

func (b *bodyReader) rest(own []int, isIf bool, depth int) bool {
	l, ok := b.row(depth)
	own = append(own, l...)
	if ok && isIf && b.s[b.at] == 'e' {
		own = append(own, b.at)
		b.at++
		l, ok = b.row(depth)
		own = append(own, l...)
	}
	if !ok || b.s[b.at] != '.' {
		return false
	}
	for _, at := range append(own, b.at) {
		b.ends[at] = b.at
	}
	b.at++
	return true
}

// wantEnds: where the ends stand and how deep it goes; false where it is no body.
func wantEnds(s string) ([]int, int, bool) {
	b := bodyReader{s: s, ends: make([]int, len(s))}
	if !b.rest(nil, false, 1) || b.at != len(s) {
		return nil, 0, false
	}
	return b.ends, b.deep, true
}

func checkBody(t *testing.T, s string) {
	t.Helper()
	want, wantDeep, wantOk := wantEnds(s)
	if len(s) > impl.MaxBody {
		want, wantDeep, wantOk = nil, 0, false
	}
	l := codeOfLetters(s)
	ends, ok := impl.EndsOf(l)
	if !slices.Equal(ends, want) || ok != wantOk {
		t.Fatalf("EndsOf %s: %v, %t, want %v, %t", s, ends, ok, want, wantOk)
	}
	if deep, ok := impl.DeepestOf(l); deep != wantDeep || ok != wantOk {
		t.Fatalf("DeepestOf %s: %d, %t, want %d, %t", s, deep, ok, wantDeep, wantOk)
	}
	for i, end := range ends {
		if end < i || l[end].Op != impl.InEnd {
			t.Fatalf("%s: instruction %d has its end at %d", s, i, end)
		}
	}
}

// Promise 6: where each instruction's end stands, and how deep it goes, written out.
func TestEndsWrittenOut(t *testing.T) {
	for _, c := range []struct {
		body string
		ends []int
		deep int
	}{
		{".", []int{0}, 1},
		{"n.", []int{1, 1}, 1},
		{"b..", []int{1, 1, 2}, 2},
		{"nbn.n.", []int{5, 3, 3, 3, 5, 5}, 2},
		{"b.l.i..", []int{1, 1, 3, 3, 5, 5, 6}, 2},
		{"bli....", []int{5, 4, 3, 3, 4, 5, 6}, 4},
		{"nbnln.n.n.", []int{9, 7, 7, 5, 5, 5, 7, 7, 9, 9}, 3},
		{"ie..", []int{2, 2, 2, 3}, 2},
		{"inen..", []int{4, 4, 4, 4, 4, 5}, 2},
		{"iie.eie...", []int{8, 3, 3, 3, 8, 7, 7, 7, 8, 9}, 3},
		{"ibn.nebn.n.n.", []int{10, 3, 3, 3, 10, 10, 8, 8, 8, 10, 10, 12, 12}, 3},
		{"lb..b.lb...", []int{3, 2, 2, 3, 5, 5, 9, 8, 8, 9, 10}, 3},
	} {
		l := codeOfLetters(c.body)
		ends, ok := impl.EndsOf(l)
		if !slices.Equal(ends, c.ends) || !ok {
			t.Errorf("EndsOf %s: %v, %t, want %v", c.body, ends, ok, c.ends)
		}
		if deep, ok := impl.DeepestOf(l); deep != c.deep || !ok {
			t.Errorf("DeepestOf %s: %d, %t, want %d", c.body, deep, ok, c.deep)
		}
	}
}

func TestBodiesRefused(t *testing.T) {
	for _, s := range []string{
		"",           // nothing
		"n",          // no end
		"b.",         // the end is the block's, the body has none
		"l.",         // likewise
		"i.",         // likewise
		"ie.",        // likewise
		"bn.n",       // likewise
		"bb..",       // one end too few
		"..",         // one too many
		"b...",       // likewise
		".n",         // something behind the end
		".n.",        // something behind the end, with an end of its own
		".b..",       // a block behind the end
		".b.",        // a block behind the end that takes the last one
		".b",         // half a block
		"e.",         // an else in no block
		"nen.",       // likewise
		"be..",       // in a block
		"le..",       // in a loop
		"iee..",      // a second one
		"inenen..",   // likewise
		"iieiee....", // in an if within, likewise
		"ibe...",     // in a block that lies in an if
		"ile...",     // in a loop that lies in an if
		"iebe....",   // likewise, behind the if's own
		"i.e.",       // behind an if
		"i.be..",     // in the block behind an if
		"iie.e.e..",  // a second one behind an if within
		".e",         // behind the end
		"b",          // nothing but a begin
		"e",          // nothing but an else
	} {
		l := codeOfLetters(s)
		if ends, ok := impl.EndsOf(l); len(ends) != 0 || ok {
			t.Errorf("EndsOf %q: %v, %t", s, ends, ok)
		}
		if deep, ok := impl.DeepestOf(l); deep != 0 || ok {
			t.Errorf("DeepestOf %q: %d, %t", s, deep, ok)
		}
	}
}

// Promise 6: all rows of at most seven instructions, held against a reader that goes from the front.
func TestAllShortBodies(t *testing.T) {
	rows := []string{""}
	for range 8 {
		var longer []string
		for _, s := range rows {
			checkBody(t, s)
			for _, c := range "blie.n" {
				longer = append(longer, s+string(c))
			}
		}
		rows = longer
	}
}

// anyRow: blocks one within the other and one behind the other, in about so many instructions.
func anyRow(r *rand.Rand, size int) string {
	s := ""
	for len(s) < size {
		inner := r.Intn(size - len(s))
		switch r.Intn(5) {
		case 0:
			s += "b" + anyRow(r, inner) + "."
		case 1:
			s += "l" + anyRow(r, inner) + "."
		case 2:
			s += "i" + anyRow(r, inner) + "."
		case 3:
			s += "i" + anyRow(r, inner/2) + "e" + anyRow(r, inner/2) + "."
		default:
			s += "n"
		}
	}
	return s
}

// Promise 6: long bodies, as they are and with one instruction put in, taken out or changed.
func TestAnyBodies(t *testing.T) {
	r := rand.New(rand.NewSource(64))
	right := 0
	for range 5000 {
		s := anyRow(r, r.Intn(150)) + "."
		checkBody(t, s)
		if _, _, ok := wantEnds(s); !ok {
			t.Fatal("meant to be a body:", s)
		}
		at := r.Intn(len(s))
		c := string("blie.n"[r.Intn(6)])
		for _, other := range []string{s[:at] + c + s[at:], s[:at] + s[at+1:], s[:at] + c + s[at+1:]} {
			checkBody(t, other)
			if _, _, ok := wantEnds(other); ok {
				right++
			}
		}
	}
	if right == 0 {
		t.Error("meant to have some bodies among the changed ones")
	}
}

// MaxBody may be met exactly, flat and as deep as can be; one more is refused.
func TestBodiesAtTheirLimit(t *testing.T) {
	for _, c := range []struct {
		body string
		deep int
	}{
		{strings.Repeat("n", 199) + ".", 1},
		{strings.Repeat("b", 99) + "n" + strings.Repeat(".", 100), 100},
		{strings.Repeat("i", 66) + strings.Repeat("e.", 66) + "n.", 67},
		{strings.Repeat("l.", 99) + "n.", 2},
	} {
		checkBody(t, c.body)
		l := codeOfLetters(c.body)
		ends, ok := impl.EndsOf(l)
		if len(c.body) != impl.MaxBody || len(ends) != impl.MaxBody || !ok {
			t.Fatalf("%d instructions: %d, %t", len(c.body), len(ends), ok)
		}
		if deep, ok := impl.DeepestOf(l); deep != c.deep || !ok {
			t.Errorf("%s: %d, %t", c.body, deep, ok)
		}
		checkBody(t, "n"+c.body)
		if ends, ok := impl.EndsOf(codeOfLetters("n" + c.body)); len(ends) != 0 || ok {
			t.Errorf("one more than MaxBody: %v, %t", ends, ok)
		}
		if deep, ok := impl.DeepestOf(codeOfLetters("n" + c.body)); deep != 0 || ok {
			t.Errorf("one more than MaxBody: %d, %t", deep, ok)
		}
	}
}

// Promise 6: what does nothing to blocks counts alike, whatever it is: every such op lies in the innermost block.
func TestEndsOfEveryOp(t *testing.T) {
	for _, f := range insForms() {
		for _, op := range f.ops {
			if op == impl.InElse || op == impl.InEnd || f.bytes == "byte" {
				continue
			}
			l := codeOfLetters("nbn.n.")
			l[0].Op, l[2].Op, l[4].Op = op, op, op
			if ends, ok := impl.EndsOf(l); !slices.Equal(ends, []int{5, 3, 3, 3, 5, 5}) || !ok {
				t.Errorf("op %d: %v, %t", op, ends, ok)
			}
			if deep, ok := impl.DeepestOf(l); deep != 2 || !ok {
				t.Errorf("op %d: %d, %t", op, deep, ok)
			}
		}
	}
}
