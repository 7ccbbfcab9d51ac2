package tests

import (
	"fmt"
	"math"
	"math/rand"
	"slices"
	"strings"
	"testing"

	"loop.example/g00209/impl"
)

// flattening: what the functions of chapter 14 are given.
type flattening struct {
	heap  impl.Heap
	types []impl.TypeNode
	l     []impl.Value
	words []impl.Word
	code  int
	w     impl.Word
	want  int
}

func (g flattening) String() string {
	return fmt.Sprintf("%s, %s, %s, %s, %d, %v, %d", heapText(g.heap), short(g.types), short(g.l), wordsText(g.words), g.code, g.w, g.want)
}

// flatAnswers: what every function of chapter 14 answers.
type flatAnswers struct {
	heap              impl.Heap
	words             []impl.Word
	lowered           int
	values            []impl.Value
	lifted            int
	fits, good        bool
	as, from          impl.Word
	mayBeIn, wasThere bool
}

func (g flattening) answers() flatAnswers {
	var a flatAnswers
	a.heap, a.words, a.lowered = impl.LowerFlat(g.heap, g.types, g.l, g.code)
	a.values, a.lifted = impl.LiftFlat(g.heap.Memory, g.types, g.words, g.code)
	a.fits, a.good = impl.FlatFits(g.types)
	a.as, a.mayBeIn = impl.WordAs(g.w, g.want)
	a.from, a.wasThere = impl.WordFrom(g.w, g.want)
	return a
}

// checkFlattening: they answer, with zero answers beside what is refused, in new memory, and write into nothing.
func checkFlattening(t *testing.T, g flattening) string {
	t.Helper()
	defer func() {
		if r := recover(); r != nil {
			t.Fatalf("panic at %s: %v", g, r)
		}
	}()
	types, l, words, data := slices.Clone(g.types), slices.Clone(g.l), slices.Clone(g.words), strings.Clone(g.heap.Memory.Data)
	a := g.answers()
	if !slices.Equal(g.types, types) || !slices.Equal(g.l, l) || !slices.Equal(g.words, words) || g.heap.Memory.Data != data {
		t.Fatalf("an argument has changed: %s", g)
	}
	if !impl.GoodHeap(a.heap) || sharesBytes(g.heap.Memory.Data, a.heap.Memory.Data) || a.lowered != impl.LowerOk && (a.heap != wantKept(g.heap) || len(a.words) > 0) {
		t.Fatalf("%s: %s, %s, %d", g, heapText(a.heap), wordsText(a.words), a.lowered)
	}
	if a.lowered == impl.LowerOk != (len(a.words) > 0) || a.lifted == impl.LowerOk != (len(a.values) > 0) || a.good != impl.GoodType(g.types) || a.fits && !a.good {
		t.Fatalf("%s: %+v", g, a)
	}
	if !a.fits && (a.lowered != impl.LowerBad || a.lifted != impl.LowerBad) || !a.mayBeIn && a.as != (impl.Word{}) || !a.wasThere && a.from != (impl.Word{}) {
		t.Fatalf("%s: %+v", g, a)
	}
	for i, v := range a.values {
		// Texts of one byte the language itself keeps in one place.
		shared := func(w impl.Value) bool { return len(v.Text) > 1 && sharesBytes(w.Text, v.Text) }
		if sharesBytes(g.heap.Memory.Data, v.Text) || slices.ContainsFunc(a.values[:i], shared) {
			t.Fatalf("%s: the Text of node %d lies in other memory", g, i)
		}
	}
	return fmt.Sprint(a)
}

// anyFlattening: a value, its words mostly, and a word, with something beside them that may be anything.
func anyFlattening(r *rand.Rand) flattening {
	x := anyFew(r, 20, 8)
	if r.Intn(8) == 0 {
		x = anyTree(r, 1+r.Intn(40), 1+r.Intn(8))
	}
	three := []int{impl.TypeI32, impl.TypeI64, impl.TypeF32}
	g := flattening{heap: anyHeap(r), types: x.nodes(), l: anyValue(r, x, 1+r.Intn(40)).nodes(), code: threeCodes[r.Intn(3)], w: anyWordOf(r, three[r.Intn(3)]), want: three[r.Intn(3)]}
	next, words, _ := impl.LowerFlat(g.heap, g.types, g.l, g.code)
	if g.words = words; r.Intn(2) == 0 {
		g.heap.Memory = next.Memory
	}
	for range r.Intn(4) {
		switch r.Intn(8) {
		case 0:
			g.heap.Next = anyPlace(r)
		case 1:
			g.heap.Memory.Max = r.Intn(12) - 2
		case 2:
			g.types = spoiltNodes(r, g.types)
		case 3:
			g.l = spoiltValues(r, g.l)
		case 4, 5:
			g.words = spoiltWords(r, g.words)
		case 6:
			g.code = []int{anyPlace(r), r.Intn(6) - 1}[r.Intn(2)]
		default:
			g.w, g.want = impl.Word{Type: []int{g.w.Type, anyPlace(r)}[r.Intn(2)], Bits: anyWord(r)}, []int{g.want, anyPlace(r), 120 + r.Intn(10)}[r.Intn(3)]
		}
	}
	return g
}

// Promise 19: every function answers at any arguments.
func TestFlatAnswersAtAnything(t *testing.T) {
	heaps := append(badHeaps(), impl.Heap{}, heapOf(1, 0), heapOf(1, 256), heapOf(8, 3), impl.Heap{Memory: impl.Memory{Max: 8, Data: strings.Repeat("\xff", 1<<20)}, Next: 1 << 19})
	types := append(noTypes(), make([]impl.TypeNode, 100000), typeTold("u64").nodes(), typeTold("string").nodes(), typeTold("list<u8>").nodes(), typeTold("list<list<list<string>>>").nodes(), within("option", 7, tree("u64")).nodes(), typeTold("record<u8,list<s64>>").nodes(), typeTold("result<flags<32>,enum<300>>").nodes(), typeTold("own<3>").nodes(), within("record", 7, tree("f32")).nodes(), within("list", 7, tree("char")).nodes(), ofWordsOver(16).nodes(), ofWordsOver(17).nodes(), ofWordsOver(50).nodes())
	values := [][]impl.Value{nil, {}, {{}}, {{Up: -1}}, make([]impl.Value, 101), make([]impl.Value, 100000), {{Text: strings.Repeat("\xff", 1<<20), Up: -1}}, {{Text: text(200), Up: -1}}, {{Up: 1}, {Up: 0}}, {{Up: -1}, {Up: 0}}, {{N: 1, Up: -1}, {N: 7, Up: 0}}}
	rows := [][]impl.Word{nil, {}, {{}}, {{Type: math.MaxInt, Bits: math.MaxUint64}}, wordsOf("i:0"), wordsOf("i:-1"), wordsOf("i:0 i:0"), wordsOf("i:-1 i:-1"), wordsOf("I:-1"), wordsOf("f:-1"), {{Type: impl.TypeI32, Bits: math.MaxUint64}}, {{Type: impl.TypeF32, Bits: 1 << 32}, {Type: impl.TypeI32, Bits: 1 << 32}}, make([]impl.Word, 16), make([]impl.Word, 100000), slices.Repeat(wordsOf("i:0"), 16), slices.Repeat(wordsOf("i:-1"), 100000)}
	ints := append(anyInts(), 125, 126, 127, 128, 1<<32+127)
	for i, h := range heaps {
		for k, n := range ints {
			g := flattening{h, types[(i+k)%len(types)], values[k%len(values)], rows[(i+k)%len(rows)], n, impl.Word{Type: n, Bits: uint64(n)}, ints[i%len(ints)]}
			checkFlattening(t, g)
			g.code, g.w = 1+k%3, impl.Word{Type: 125 + i%3, Bits: uint64(n)}
			checkFlattening(t, g)
		}
	}
	for i, nodes := range types {
		for _, l := range values {
			for k, row := range rows {
				checkFlattening(t, flattening{heapOf(8, 3), nodes, l, row, threeCodes[(i+k)%3], impl.Word{Type: 125 + k%3}, 125 + i%3})
			}
		}
	}
	r := rand.New(rand.NewSource(151))
	for range 20000 {
		checkFlattening(t, anyFlattening(r))
	}
}

// Promise 19: what lies behind a list's length is neither read nor written.
func TestFlatLeavesArguments(t *testing.T) {
	r := rand.New(rand.NewSource(152))
	behindTypes := []impl.TypeNode{{Kind: impl.KindU64, Up: 0}, {Kind: math.MaxInt, N: math.MinInt, Up: math.MaxInt}}
	behind := []impl.Value{{N: 1, Up: 0}, {N: math.MinInt, Text: "behind", Up: math.MaxInt}}
	behindWords := []impl.Word{{Type: impl.TypeI32, Bits: 1}, {Type: math.MinInt, Bits: math.MaxUint64}}
	for range 3000 {
		g := anyFlattening(r)
		types, l, words := slices.Concat(g.types, behindTypes), slices.Concat(g.l, behind), slices.Concat(g.words, behindWords)
		roomy := g
		roomy.types, roomy.l, roomy.words = types[:len(g.types)], l[:len(g.l)], words[:len(g.words)]
		if got, want := checkFlattening(t, roomy), checkFlattening(t, g); got != want {
			t.Fatalf("%s: %.500q, want %.500q", g, got, want)
		}
		if !slices.Equal(types, slices.Concat(g.types, behindTypes)) || !slices.Equal(l, slices.Concat(g.l, behind)) || !slices.Equal(words, slices.Concat(g.words, behindWords)) {
			t.Fatalf("something behind an argument has changed: %v, %v, %v", types, l, words)
		}
	}
}

// Promise 19: answers are new memory, also where nothing has changed.
func TestFlatIsNew(t *testing.T) {
	for kind, s := range map[string]string{
		"u8": "7", "string": `"plain"`, "list<string>": `["plain","plain","\e2\82\ac"]`, "record<string,u8>": `("plain",7)`, "option<string>": `some:"plain"`, "option<u64>": "none", "variant<u8,list<string>>": `1:["plain","plain"]`, "variant<u8,string>": "0:7", "list<bool>": "[]",
	} {
		types := typeTold(kind).nodes()
		l, _ := impl.ReadValue(types, s)
		for _, code := range threeCodes {
			for _, next := range []int{0, 256} {
				h := heapOf(1, next)
				one, words, fault := impl.LowerFlat(h, types, l, code)
				two, _, _ := impl.LowerFlat(h, types, l, code)
				if next == 0 && fault != impl.LowerOk || sharesBytes(h.Memory.Data, one.Memory.Data) || sharesBytes(one.Memory.Data, two.Memory.Data) {
					t.Errorf("%s in code %d from %d on: %d, or the heap is not new", kind, code, next, fault)
				}
				if fault != impl.LowerOk {
					continue
				}
				checkNewList(t, s, types, func() []impl.Word {
					_, again, _ := impl.LowerFlat(h, types, l, code)
					return again
				})
				checkNewList(t, s, types, func() []impl.Value {
					back, _ := impl.LiftFlat(one.Memory, types, words, code)
					return back
				})
				back, _ := impl.LiftFlat(one.Memory, types, words, code)
				again, _ := impl.LiftFlat(one.Memory, types, words, code)
				for i, v := range back {
					if sharesBytes(l[i].Text, v.Text) || sharesBytes(again[i].Text, v.Text) || sharesBytes(one.Memory.Data, v.Text) {
						t.Errorf("%s in code %d: the Text of node %d lies in other memory", kind, code, i)
					}
				}
			}
		}
	}
	// The heap that is told beside a refusal is new too.
	h := heapOf(1, 5)
	for _, code := range []int{0, 4} {
		one, _, _ := impl.LowerFlat(h, tree("u8").nodes(), number(1).nodes(), code)
		two, _, _ := impl.LowerFlat(h, tree("u8").nodes(), number(1).nodes(), code)
		if one != h || sharesBytes(h.Memory.Data, one.Memory.Data) || sharesBytes(one.Memory.Data, two.Memory.Data) {
			t.Errorf("LowerFlat in code %d: the heap is not new", code)
		}
	}
}

// Promise 19: the same call answers the same again, whatever was asked between, also at the same time.
func TestFlatKeepsNothing(t *testing.T) {
	r := rand.New(rand.NewSource(153))
	var all []flattening
	var first []string
	for range 1000 {
		g := anyFlattening(r)
		all, first = append(all, g), append(first, checkFlattening(t, g))
	}
	each := make(chan []string)
	for range 2 {
		go func() {
			var l []string
			for _, g := range all {
				l = append(l, fmt.Sprint(g.answers()))
			}
			each <- l
		}()
	}
	for range 2 {
		if again := <-each; !slices.Equal(again, first) {
			t.Error("answers differ")
		}
	}
	for i, g := range slices.Backward(all) {
		if again := checkFlattening(t, g); again != first[i] {
			t.Fatalf("%.500q, then %.500q", first[i], again)
		}
	}
}
